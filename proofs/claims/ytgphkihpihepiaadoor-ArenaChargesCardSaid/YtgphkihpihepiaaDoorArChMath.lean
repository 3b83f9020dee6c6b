/- What ArenaCharges keeps: blocks with their handles and sizes, beside an arena; what an allocation and a free leave of it. -/
import Derived.Test.YtgphkihpihepiaaDoorArLeastWalk
namespace Go.Proofs.YtgphkihpihepiaaDoor
open Go.RowKit
set_option linter.unusedVariables false

/-- A block that lives: its slot, its generation, how many bytes it has, which ones. -/
structure It where
  sl : Nat
  gn : Int
  n : Nat
  c : Int
def hOf (x : It) : Int × Int := ((x.sl : Int), x.gn)
def nOf (x : It) : Int := (x.n : Int)
/-- The blocks I are just those that live in s. -/
structure Rep (s : Ar) (I : List It) : Prop where
  has : ∀ x ∈ I, bk s.l x.sl = ⟨txt x.n x.c, rnd x.n, x.gn⟩ ∧ x.n ≤ 1024 ∧ 0 ≤ x.c ∧ x.c ≤ 255
  nod : (I.map (·.sl)).Nodup
  ch : chg s.l = tot (I.map nOf)
  lv : liv s.l = (I.length : Int)
theorem Rep.live {s : Ar} {I : List It} (h : Rep s I) {x : It} (hx : x ∈ I) : 16 ≤ (bk s.l x.sl).r ∧ (bk s.l x.sl).g = x.gn ∧ x.sl < s.l.length := by
  have h1 := h.has x hx
  have hr := rnd16 (n := (x.n : Int)) (rok_yes (by omega) (by omega))
  rw [h1.1]
  refine ⟨hr.1, rfl, ?_⟩
  rcases Nat.lt_or_ge x.sl s.l.length with h2 | h2
  · exact h2
  · have h3 := h1.1
    rw [bk_ge h2] at h3
    have h4 : (0 : Int) = rnd x.n := congrArg Blk.r h3
    omega
theorem Rep.nil (c d : Int) : Rep ⟨c, d, []⟩ [] := ⟨(fun x hx => by cases hx), List.nodup_nil, rfl, rfl⟩
theorem Rep.lim {s : Ar} {I : List It} (h : Rep s I) (m : Int) : Rep ⟨s.cap, m, s.l⟩ I := ⟨h.has, h.nod, h.ch, h.lv⟩
theorem Rep.alloc {s : Ar} {I : List It} (h : Rep s I) (n : Nat) (c : Int) (hn : n ≤ 1024) (h0 : 0 ≤ c) (h1 : c ≤ 255) (he : aerr s ((txt n c).length : Int) = 0) :
    Rep (alo s (txt n c)) (I ++ [⟨fre s.l, (bk s.l (fre s.l)).g, n, c⟩]) := by
  have hr := rnd16 (n := (n : Int)) (rok_yes (by omega) (by omega))
  have ne : ∀ x ∈ I, x.sl ≠ fre s.l := fun x hx e => by
    have := (h.live hx).1
    rw [e, fre_r] at this
    omega
  rw [alo, if_pos he]
  refine ⟨fun x hx => ?_, ?_, ?_, ?_⟩
  · show bk (tak s.l (txt n c) (rnd (txt n c).length)) x.sl = _ ∧ _
    rw [tak_bk]
    rcases List.mem_append.1 hx with hx | hx
    · rw [if_neg (ne x hx)]; exact h.has x hx
    · simp at hx
      subst hx
      rw [if_pos rfl]
      refine ⟨?_, hn, h0, h1⟩
      rw [tkb, txt_length]
  · rw [List.map_append]
    refine List.nodup_append.2 ⟨h.nod, by simp, fun a ha b hb => ?_⟩
    simp at hb
    obtain ⟨x, hx, rfl⟩ := List.mem_map.1 ha
    rw [hb]
    exact ne x hx
  · show chg (tak _ _ _) = _
    rw [tak_chg, h.ch, List.map_append, tot_append, txt_length]
    simp [tot, nOf]
  · show liv (tak _ _ _) = _
    rw [tak_liv _ _ _ (by rw [txt_length]; omega), h.lv]
    simp
theorem Rep.free {s : Ar} {A C : List It} {x : It} (h : Rep s (A ++ x :: C)) : hit s.l x.sl x.gn = true ∧ Rep (fro s x.sl x.gn) (A ++ C) ∧ hit (fro s x.sl x.gn).l x.sl x.gn = false ∧ fro (fro s x.sl x.gn) x.sl x.gn = fro s x.sl x.gn ∧ (fro s x.sl x.gn).cap = s.cap ∧ (fro s x.sl x.gn).lim = s.lim ∧ (fro s x.sl x.gn).l.length = s.l.length := by
  have hx := h.live (x := x) (by simp)
  have hbx := (h.has x (by simp))
  have hh : hit s.l x.sl x.gn = true := by
    simp [hit, hx.2.1]; omega
  have e : fro s x.sl x.gn = ⟨s.cap, s.lim, s.l.set x.sl (frb (bk s.l x.sl))⟩ := by rw [fro, if_pos hh]
  have nd := h.nod
  simp only [List.map_append, List.map_cons] at nd
  have hno : ∀ y ∈ A ++ C, y.sl ≠ x.sl := fun y hy e => by
    have nd2 := List.nodup_append.1 nd
    rcases List.mem_append.1 hy with hy | hy
    · exact nd2.2.2 _ (List.mem_map_of_mem hy) x.sl (by simp) e
    · have := (List.nodup_cons.1 nd2.2.1).1
      exact this (by rw [← e]; exact List.mem_map_of_mem hy)
  have hh2 : hit (fro s x.sl x.gn).l x.sl x.gn = false := by
    rw [e]
    show hit (s.l.set x.sl (frb (bk s.l x.sl))) x.sl x.gn = false
    rw [hit, bk_set hx.2.2, if_pos rfl]; rfl
  refine ⟨hh, ?_, hh2, by rw [fro, if_neg (by rw [hh2]; decide)], by rw [e], by rw [e], by rw [e]; simp⟩
  rw [e]
  refine ⟨fun y hy => ?_, ?_, ?_, ?_⟩
  · show bk (s.l.set _ _) y.sl = _ ∧ _
    rw [bk_set hx.2.2, if_neg (hno y hy)]
    exact h.has y (by rcases List.mem_append.1 hy with hy | hy <;> simp [hy])
  · rw [List.map_append]
    have nd2 := List.nodup_append.1 nd
    exact List.nodup_append.2 ⟨nd2.1, (List.nodup_cons.1 nd2.2.1).2, fun a ha b hb => nd2.2.2 a ha b (by simp [hb])⟩
  · show chg (s.l.set _ _) = _
    have h1 := h.ch
    rw [List.map_append, tot_append] at h1
    rw [chg_set hx.2.2, h1, hbx.1, List.map_append, tot_append]
    simp only [List.map_cons, tot, nOf, frb]
    omega
  · show liv (s.l.set _ _) = _
    have h1 := h.lv
    rw [liv_set hx.2.2, h1]
    have : one (bk s.l x.sl).r = 1 := by rw [one, if_neg (by omega)]
    rw [this]
    simp [one, frb]
    omega
theorem Rep.get {s : Ar} {I : List It} (h : Rep s I) {x : It} (hx : x ∈ I) : hit s.l x.sl x.gn = true ∧ got s x.sl x.gn = txt x.n x.c := by
  have h1 := h.live hx
  have hh : hit s.l x.sl x.gn = true := by simp [hit, h1.2.1]; omega
  exact ⟨hh, by rw [got, if_pos hh, (h.has x hx).1]⟩
theorem split_at {I : List It} {m : Nat} (h : m < I.length) : ∃ A x C, I = A ++ x :: C ∧ A.length = m ∧ I.take m = A ∧ I.drop (m + 1) = C ∧ I[m]? = some x := by
  refine ⟨I.take m, I[m], I.drop (m + 1), ?_, by simp; omega, rfl, rfl, List.getElem?_eq_getElem h⟩
  rw [← List.drop_eq_getElem_cons h, List.take_append_drop]

/-- What ArenaCharges has behind k rounds. -/
structure Chs (w : World) (B : Nat) (L0 : Int) (hv lv : Value) (k : Nat) (s : Ar) (I : List It) : Prop where
  row : w.ownsRow B 32 2 hv I.length (hcells (I.map hOf))
  len : w.ownsRow B 3 1 lv I.length (ints (I.map nOf))
  sc : Sc w B B s (hv.ownBlock.toList ++ lv.ownBlock.toList)
  ap : ∀ j, hv.ownBlock = some j → lv.ownBlock ≠ some j
  rep : Rep s I
  lim : s.lim = L0
  sl : s.l.length ≤ k
  il : I.length ≤ k
theorem Chs.small {w : World} {B : Nat} {L0 : Int} {hv lv : Value} {k : Nat} {s : Ar} {I : List It} (h : Chs w B L0 hv lv k s I) : Small (I.map nOf) := fun x hx => by
  obtain ⟨y, hy, rfl⟩ := List.mem_map.1 hx
  have := (h.rep.has y hy).2.1
  simp only [nOf]; omega
/-- Nothing of it is turned by a deed that keeps its blocks, and the arena. -/
theorem Chs.kp {w w' : World} {B : Nat} {L0 : Int} {hv lv : Value} {k : Nat} {s : Ar} {I : List It} (h : Chs w B L0 hv lv k s I) (hs : Sc w' B B s (hv.ownBlock.toList ++ lv.ownBlock.toList)) (hk : Kp B (hv.ownBlock.toList ++ lv.ownBlock.toList) w w') : Chs w' B L0 hv lv k s I :=
  ⟨hk.owns h.row (by intro j hj; simp [hj]), hk.owns h.len (by intro j hj; simp [hj]), hs, h.ap, h.rep, h.lim, h.sl, h.il⟩
theorem Chs.below {w w' : World} {B : Nat} {L0 : Int} {hv lv : Value} {k : Nat} {s : Ar} {I : List It} (h : Chs w B L0 hv lv k s I) (hb : Below w.heap.size w w') : Chs w' B L0 hv lv k s I := h.kp (h.sc.below hb) (h.sc.kp hb)
theorem Chs.up {w : World} {B : Nat} {L0 : Int} {hv lv : Value} {k : Nat} {s : Ar} {I : List It} (h : Chs w B L0 hv lv k s I) : Chs w B L0 hv lv (k + 1) s I := ⟨h.row, h.len, h.sc, h.ap, h.rep, h.lim, Nat.le_succ_of_le h.sl, Nat.le_succ_of_le h.il⟩
theorem owns_base {w : World} {b b' : Nat} {e : TypeId} {size : Nat} {v : Value} {n : Nat} {xs : List Value} (h : w.ownsRow b e size v n xs) (hb : b' ≤ b) : w.ownsRow b' e size v n xs := by
  refine ⟨h.1, ?_⟩
  rcases h.2 with hn | ⟨g, cap, cur, rfl, hbb, rest⟩
  · exact .inl hn
  · exact .inr ⟨g, cap, cur, rfl, Nat.le_trans hb hbb, rest⟩
theorem Sc.own {w w' : World} {B g : Nat} {s : Ar} {K : List Nat} (h : Sc w B g s K) (hb : Below w.heap.size w w') {e : TypeId} {size : Nat} {v : Value} {n : Nat} {xs : List Value} (r : w'.ownsRow w.heap.size e size v n xs) : Sc w' B g s (v.ownBlock.toList ++ K) := by
  cases hv : v.ownBlock with
  | none => exact h.below hb
  | some k => exact h.fresh hb (r.lt k hv).1 (r.lt k hv).2
/-- A handle and a size are appended. -/
theorem app_len {w : World} {B g : Nat} {s : Ar} {K : List Nat} {v : Value} {l : List Int} {n : Nat} (hn : l.length = n) (hs : Sc w B g s (v.ownBlock.toList ++ K)) (hown : w.ownsRow B 3 1 v n (ints l)) (x : Int) (hl : n ≤ 5000) :
    ∃ v' w', (Builtin.append_ #[29, 29] 29 #[v, .slice (some ⟨w.heap.size, 0, none⟩) 1 1]).run Tryd.prog (w.alloc (.cells #[.int .i64 x] 3)) = .ok v' w' ∧ w'.ownsRow B 3 1 v' (n + 1) (ints (l ++ [x])) ∧ Sc w' B g s (v'.ownBlock.toList ++ K) ∧ Below B w w' ∧ (∀ k, k < w.heap.size → v.ownBlock ≠ some k → w'.heap[k]? = w.heap[k]?) ∧ (v'.ownBlock = v.ownBlock ∨ ∃ n, v'.ownBlock = some n ∧ w.heap.size ≤ n) := by
  obtain ⟨v', w', h1, h2, h3, h4⟩ := app_ints (w.alloc (.cells #[.int .i64 x] 3)) B v n l [x] (hown.alloc _) (some ⟨w.heap.size, 0, none⟩) 1 1 rfl (Lies.one _ _ _) (fun h => by cases h) (by omega) (by have := hs.bl; simp; omega)
  have bw : Below w.heap.size w (w.alloc (.cells #[.int .i64 x] 3)) := (Below.refl _ _).alloc (Nat.le_refl _) _
  have hs0 := hs.below bw
  refine ⟨v', w', h1, h2, ?_⟩
  have hbl : ∀ k, k < w.heap.size → v.ownBlock ≠ some k → w'.heap[k]? = w.heap[k]? := fun k hk hne => (h3.block k (by simp; omega) (fun e => hne e.symm)).trans (bw.block k hk)
  have ho : ∀ k, v.ownBlock = some k → k ∈ v.ownBlock.toList ++ K := fun k hk => by rw [hk]; simp
  have bel0 := bw.mono hs.bl
  rcases h4 with e | e
  · obtain ⟨t1, t2⟩ := hs0.turn ho h3.os h3.tape h3.output h3.size (fun k hk hne => h3.block k hk (fun e => hne e.symm))
    refine ⟨by rw [e]; exact t1, bel0.trans t2, hbl, .inl e⟩
  · have hlt := (h2.lt _ e).2
    obtain ⟨t1, t2⟩ := hs0.turnf ho h3.os h3.tape h3.output h3.size (fun k hk hne => h3.block k hk (fun e => hne e.symm)) (n := (w.alloc (.cells #[.int .i64 x] 3)).heap.size) (Nat.le_refl _) hlt
    refine ⟨t1.sub fun k hk => ?_, bel0.trans t2, hbl, .inr ⟨_, e, by simp⟩⟩
    rw [e] at hk
    simp at hk ⊢
    rcases hk with hk | hk
    · exact .inl hk
    · exact .inr (.inr hk)
/-- An append of handles onto a slice of the call's own. -/
theorem app_hands (w : World) (base : Nat) (v : Value) (n : Nat) (xs ys : List (Int × Int)) (hown : w.ownsRow base 32 2 v n (hcells xs)) (ad : Addr) (m c : Nat) (hl : ys.length = m) (hlies : ∀ j u, (hcells ys)[j]? = some u → w.cell? (ad.add j) = some u)
    (hsmall : n + m ≤ 5000) (hbase : base ≤ w.heap.size) :
    ∃ v' w', (Builtin.append_ #[28, 28] 28 #[v, .slice (some ad) m c]).run Tryd.prog w = .ok v' w' ∧ w'.ownsRow base 32 2 v' (n + m) (hcells (xs ++ ys)) ∧ w.grownBy w' v.ownBlock ∧ (v'.ownBlock = v.ownBlock ∨ v'.ownBlock = some w.heap.size) := by
  obtain ⟨i0, hi, hz0, hz1, hz2⟩ := info_parts info_handle
  obtain ⟨v', w', h1, h2, h3, _, h4⟩ := run_append_own_at (P := Tryd.prog) w base 28 28 32 i0 (.agg #[.int .u32 0, .int .u32 0]) 2 8 Tryd.underlying28 hi hz0 hz1 hz2 rfl (by omega) v n (hcells xs) hown
    ad m c (hcells ys) (by rw [hcells_len, hl]) hlies (hcells_one ys) (by unfold maxLen; omega) (by omega) hbase
  exact ⟨v', w', h1, by simpa [hcells] using h2, h3, h4⟩
/-- A block that was allocated is noted: both appends. -/
theorem push_both {w : World} {B : Nat} {L0 : Int} {hv lv : Value} {k : Nat} {s : Ar} {I : List It} {x : It} (row : w.ownsRow B 32 2 hv I.length (hcells (I.map hOf))) (len : w.ownsRow B 3 1 lv I.length (ints (I.map nOf)))
    (sc : Sc w B B s (hv.ownBlock.toList ++ lv.ownBlock.toList)) (ap : ∀ j, hv.ownBlock = some j → lv.ownBlock ≠ some j) (rep : Rep s (I ++ [x])) (lim : s.lim = L0) (sl : s.l.length ≤ k + 1) (il : I.length ≤ k) (hk : k ≤ 30) :
    ∃ v1 w1 v2 w2, (Builtin.append_ #[28, 28] 28 #[hv, .slice (some ⟨w.heap.size, 0, none⟩) 1 1]).run Tryd.prog (w.alloc (.cells #[.int .u32 (x.sl : Int), .int .u32 x.gn] 32)) = .ok v1 w1 ∧
      (Builtin.append_ #[29, 29] 29 #[lv, .slice (some ⟨w1.heap.size, 0, none⟩) 1 1]).run Tryd.prog (w1.alloc (.cells #[.int .i64 (x.n : Int)] 3)) = .ok v2 w2 ∧
      Chs w2 B L0 v1 v2 (k + 1) s (I ++ [x]) ∧ Below B w w2 := by
  obtain ⟨v1, w1, r1, o1, o2, o3, o4, o5⟩ := app_hs (l := I.map hOf) (by simp) sc row (hOf x) (by omega)
  have hlt : ∀ j, lv.ownBlock = some j → j < w.heap.size := fun j hj => (len.lt j hj).2
  have len1 : w1.ownsRow B 3 1 lv I.length (ints (I.map nOf)) := owns_keep len fun j hj => o4 j (hlt j hj) (fun e => ap j e hj)
  have ap1 : ∀ j, v1.ownBlock = some j → lv.ownBlock ≠ some j := fun j hj e => by
    rcases o5 with h | ⟨n, h, hn⟩
    · exact ap j (h.symm.trans hj) e
    · have := Option.some.inj (h.symm.trans hj)
      have := hlt j e
      omega
  have hs1 : w.heap.size ≤ w1.heap.size := o3.size
  obtain ⟨v2, w2, r2, q1, q2, q3, q4, q5⟩ := app_len (l := I.map nOf) (K := v1.ownBlock.toList) (by simp) (o2.sub fun j hj => by simp at hj ⊢; exact hj.symm) len1 (x.n : Int) (by omega)
  refine ⟨v1, w1, v2, w2, r1, r2, ⟨?_, ?_, ?_, ?_, rep, lim, sl, by simp; omega⟩, o3.trans q3⟩
  · have e : (I ++ [x]).map hOf = I.map hOf ++ [hOf x] := by simp
    rw [e]
    have h := owns_keep (w' := w2) o1 fun j hj => q4 j (o1.lt j hj).2 (fun e => ap1 j hj e)
    simpa using h
  · have e : (I ++ [x]).map nOf = I.map nOf ++ [(x.n : Int)] := by simp [nOf]
    rw [e]
    simpa using q1
  · exact q2.sub fun j hj => by simp at hj ⊢; exact hj.symm
  · intro j hj e
    rcases q5 with h | ⟨n, h, hn⟩
    · exact ap1 j hj (h.symm.trans e)
    · have := Option.some.inj (h.symm.trans e)
      have := (o1.lt j hj).2
      omega
theorem hcells_app (a b : List (Int × Int)) : hcells (a ++ b) = hcells a ++ hcells b := by simp [hcells]
theorem get_lt {α : Type} {l : List α} {j : Nat} {u : α} (h : l[j]? = some u) : j < l.length := by
  rcases Nat.lt_or_ge j l.length with h1 | h1
  · exact h1
  · rw [List.getElem?_eq_none h1] at h; cases h
/-- The cells ahead of a handle, and those behind it. -/
theorem hs_parts {w : World} {B q n cap : Nat} {Ia Ic : List It} {x : It} (hown : w.ownsRow B 32 2 (.slice (some ⟨q, 0, none⟩) n cap) n (hcells ((Ia ++ x :: Ic).map hOf))) :
    (∀ j u, (hcells (Ia.map hOf))[j]? = some u → w.cell? ((⟨q, 0, none⟩ : Addr).add j) = some u) ∧ (∀ j u, (hcells (Ic.map hOf))[j]? = some u → w.cell? ((⟨q, (Ia.length + 1) * 2, none⟩ : Addr).add j) = some u) := by
  have e : hcells ((Ia ++ x :: Ic).map hOf) = hcells (Ia.map hOf) ++ ([.int .u32 (hOf x).1, .int .u32 (hOf x).2] ++ hcells (Ic.map hOf)) := by rw [List.map_append, hcells_app]; rfl
  have hla : (hcells (Ia.map hOf)).length = Ia.length * 2 := by rw [hcells_len]; simp
  have hlen : (hcells ((Ia ++ x :: Ic).map hOf)).length = n * 2 := by simpa using hown.1
  refine ⟨fun j u hu => ?_, fun j u hu => ?_⟩
  · have hj := get_lt hu
    rw [Go.WideShapes.add_plain, Nat.zero_add, hown.cellAt _ (by rw [hlen.symm, e]; simp; omega), e, List.getElem?_append_left hj]
    exact hu
  · have hj := get_lt hu
    rw [Go.WideShapes.add_plain, hown.cellAt _ (by rw [hlen.symm, e]; simp; omega), e, List.getElem?_append_right (by omega), hla, show (Ia.length + 1) * 2 + j - Ia.length * 2 = j + 2 by omega]
    simpa [List.getElem?_append] using hu
theorem ls_parts {w : World} {A : Option Addr} {Ia Ic : List It} {x : It} (h : Lies w A (ints ((Ia ++ x :: Ic).map nOf))) : ∃ g off, A = some ⟨g, off, none⟩ ∧ Lies w (some ⟨g, off, none⟩) (ints (Ia.map nOf)) ∧ Lies w (some ⟨g, off + (Ia.length + 1), none⟩) (ints (Ic.map nOf)) := by
  have e : ints ((Ia ++ x :: Ic).map nOf) = ints (Ia.map nOf) ++ ([.int .i64 (nOf x)] ++ ints (Ic.map nOf)) := by simp [ints]
  rw [e] at h
  have hla : (ints (Ia.map nOf)).length = Ia.length := by simp [ints]
  obtain ⟨g, off, rfl, _⟩ := h.at_ (i := Ia.length) (u := .int .i64 (nOf x)) (by rw [List.getElem?_append_right (by omega), hla]; simp)
  refine ⟨g, off, rfl, fun j u hu => h j u (by rw [List.getElem?_append_left (get_lt hu)]; exact hu), fun j u hu => ?_⟩
  obtain ⟨y, hy, hc⟩ := h (Ia.length + 1 + j) u (by
    rw [List.getElem?_append_right (by omega), hla, show Ia.length + 1 + j - Ia.length = j + 1 by omega]
    simpa [List.getElem?_append] using hu)
  obtain rfl := Option.some.inj hy
  refine ⟨_, rfl, ?_⟩
  rw [Go.WideShapes.add_plain] at hc ⊢
  rw [show off + (Ia.length + 1) + j = off + (Ia.length + 1 + j) by omega]
  exact hc
theorem app_belowN {w0 w w' : World} {B base : Nat} {e : TypeId} {size : Nat} {v : Value} {n : Nat} {xs : List Value} (h : Below B w0 w) (hB : B ≤ w.heap.size) (hg : w.grownBy w' v.ownBlock) (own : w.ownsRow base e size v n xs) (hb : B ≤ base) : Below B w0 w' :=
  h.grown hg hB (fun g e => Nat.le_trans hb (own.lt g e).1)
theorem lies_bel {w w' : World} {q o : Nat} {xs : List Value} (h : ∀ j u, xs[j]? = some u → w.cell? ((⟨q, o, none⟩ : Addr).add j) = some u) (hb : Below w.heap.size w w') : ∀ j u, xs[j]? = some u → w'.cell? ((⟨q, o, none⟩ : Addr).add j) = some u := fun j u hu => by
  have h1 := h j u hu
  exact (hb.cell (World.block_lt_of_cell? _ _ h1)).trans h1
theorem pop_both {w a z : World} {B : Nat} {L0 : Int} {hv lv : Value} {k n : Nat} {s : Ar} {K : List Nat} {J : List It} (hn : J.length = n) (sc : Sc w B B s K) (b1 : Below w.heap.size w a) (r1 : a.ownsRow w.heap.size 32 2 hv n (hcells (J.map hOf))) (b2 : Below a.heap.size a z) (r2 : z.ownsRow a.heap.size 3 1 lv n (ints (J.map nOf)))
    (rep : Rep s J) (lim : s.lim = L0) (sl : s.l.length ≤ k) (il : J.length ≤ k) : Chs z B L0 hv lv k s J := by
  subst hn
  have hs1 := b1.size
  refine ⟨owns_base (owns_keep r1 fun j hj => b2.block j (r1.lt j hj).2) sc.bl, owns_base r2 (Nat.le_trans sc.bl hs1), ((sc.own b1 r1).own b2 r2).sub fun j hj => ?_, fun j hj e => ?_, rep, lim, sl, il⟩
  · simp at hj ⊢
    rcases hj with hj | hj
    · exact .inr (.inl hj)
    · exact .inl hj
  · have h1 := (r1.lt j hj).2
    have h2 := (r2.lt j e).1
    omega
theorem lies_belA {w w' : World} {ad : Addr} {xs : List Value} (h : ∀ j u, xs[j]? = some u → w.cell? (ad.add j) = some u) (hb : Below w.heap.size w w') : ∀ j u, xs[j]? = some u → w'.cell? (ad.add j) = some u := fun j u hu => by
  have h1 := h j u hu
  exact (hb.cell (World.block_lt_of_cell? _ _ h1)).trans h1
end Go.Proofs.YtgphkihpihepiaaDoor
