/- What Get of package store returns, and Put, whatever it is given. -/
import Derived.Test.YtglhebpblncjaaaDoorStPut
namespace Go.Proofs.YtglhebpblncjaaaDoor
open Go.RowKit
set_option linter.unusedVariables false

section
variable {w : World} {B g hh m N : Nat} {S : Sv} {K : List Nat}
theorem stput_any (h : St w B g hh m N S K) (hN : N ≤ 1000) (ix : Int) (hix : I64 ix) (Kd T : Int) (A : Option Addr) (n c : Nat) (l : List Int) (hk0 : -9223372036854775808 ≤ Kd) (hk1 : Kd ≤ 9223372036854775807) (hl : l.length = n) (hm : n ≤ maxLen) (hr : Lies w A (ints l)) :
    Calls Tryd.prog 12 #[.pointer (some ⟨hh, 0, none⟩), .int .i64 ix, ev Kd T A n c] w fun e w' => e = .returned (.int .i64 (perr S ix (wok Kd l) (wput Kd T l))) ∧ St w' B g hh m (N + 1) (sput S ix (wok Kd l) (wput Kd T l)) K ∧ Kp B K w w' := by
  cases ho : wok Kd l with
  | false =>
    have := stput_form h ix Kd T A n c l hk0 hk1 hl hm hr ho
    rw [ho] at this
    exact this
  | true =>
    cases hd : S.f ix with
    | some d =>
      have := stput_arg h ix hix Kd T A n c l hk0 hk1 hl hm hr ho d hd
      rw [ho] at this
      exact this
    | none =>
      have := stput_in h hN ix hix Kd T A n c l hk0 hk1 hl hm hr ho hd
      rw [ho] at this
      exact this
/-- What Get leaves. -/
def StGot (l : List UInt8) (w : World) (e : Ending) (w' : World) : Prop :=
  ∃ A, e = .returned (.tuple #[ev (gK l) (gT l) A (gV l).length (gV l).length, .bool (gok l)]) ∧ Below w.heap.size w w' ∧ Lies w' A (ints (gV l)) ∧ ∀ x : Addr, A = some x → w.heap.size ≤ x.block
theorem g_nil : gK [] = 0 ∧ gT [] = 0 ∧ gV [] = [] ∧ gok [] = false := ⟨rfl, rfl, rfl, rfl⟩
set_option maxHeartbeats 1000000 in
theorem stget_no (h : St w B g hh m N S K) (ix : Int) (hix : I64 ix) (h0 : S.f ix = none) :
    Calls Tryd.prog 18 #[.pointer (some ⟨hh, 0, none⟩), .int .i64 ix] w (StGot (sbyt S ix) w) := by
  have e : sbyt S ix = [] := by unfold sbyt; rw [h0]
  rw [e]
  have b0 : Below w.heap.size w (w.alloc (.cells #[.int .i64 0, .int .i64 0, .slice none 0 0] 35)) := (Below.refl _ _).alloc (Nat.le_refl _) _
  have h1 := h.below b0
  have hl := h1.map.look hix
  have c1 := h1.c1
  have lh := h1.blk.lt
  rw [h0] at hl
  unfold ctv zc at hl
  simp only [Option.getD_none, Option.isSome_none] at hl
  have n1 : Has (w.alloc (.cells #[.int .i64 0, .int .i64 0, .slice none 0 0] 35)) w.heap.size 35 #[.int .i64 0, .int .i64 0, .slice none 0 0] := heap_alloc_new w _
  have HB := Lib.hid b0
  have HN := Lib.hid n1
  clear h h1 b0 n1 e
  go_enter Tryd.func18, Tryd.ntmps18
  go_wp2
  have hB := Lib.hid (HB.out.alloc (by simp) (.cells #[.int .u32 ((0 : Nat) : Int), .int .u32 0, .int .i64 0] 80))
  refine bodyPost_ret (v := .tuple #[.agg #[.int .i64 0, .int .i64 0, .slice none 0 0], .bool false]) (by simp [results, Tryd.results18, go_sem]) rfl ?_
  exact ⟨none, rfl, hB.out, (fun i u hu => by simp [gV, gok] at hu), fun x hx => by cases hx⟩
theorem get_bl {w : World} {B g : Nat} {s : Ar} {K : List Nat} (h : Sc w B g s K) (i : Nat) (gn : Int) (hi : i ≤ 4294967295) (hgn0 : 0 ≤ gn) (hgn1 : gn ≤ 4294967295) :
    Calls Tryd.prog 39 #[.pointer (some ⟨g, 0, none⟩), .agg #[.int .u32 i, .int .u32 gn]] w fun e w' => e = .returned (.tuple #[.string (str (got s i gn)), .bool (hit s.l i gn)]) ∧ Below w.heap.size w w' := by
  obtain ⟨v, h1, h2⟩ := h.ar
  exact aget_any h1 i gn hi hgn0 hgn1
theorem gE_ok (l : List UInt8) : (gE l == 0) = gok l := by
  unfold gE
  cases gok l <;> rfl
set_option maxHeartbeats 2000000 in
theorem stget_yes (h : St w B g hh m N S K) (ix : Int) (hix : I64 ix) (c : Ct) (h0 : S.f ix = some c) :
    Calls Tryd.prog 18 #[.pointer (some ⟨hh, 0, none⟩), .int .i64 ix] w (StGot (sbyt S ix) w) := by
  have e : sbyt S ix = got S.s c.s c.g := by unfold sbyt; rw [h0]
  rw [e]
  have hlen := h.tl.got c.s c.g
  have hbd := h.bd ix c h0
  obtain ⟨w0, hw0⟩ : ∃ u, w.alloc (.cells #[.int .i64 0, .int .i64 0, .slice none 0 0] 35) = u := ⟨_, rfl⟩
  have b0 : Below w.heap.size w w0 := by rw [← hw0]; exact (Below.refl _ _).alloc (Nat.le_refl _) _
  have z0 : w0.heap.size = w.heap.size + 1 := by rw [← hw0]; simp
  have h1 := h.fresh b0 (Nat.le_refl _) (by omega)
  have hl := h1.map.look hix
  have c1 := h1.c1
  have lh := h1.blk.lt
  rw [h0] at hl
  unfold ctv at hl
  simp only [Option.getD_some, Option.isSome_some] at hl
  have n1 : Has w0 w.heap.size 35 #[.int .i64 0, .int .i64 0, .slice none 0 0] := by rw [← hw0]; exact heap_alloc_new w _
  have b1 : Below w0.heap.size w0 (w0.alloc (.cells #[.int .u32 c.s, .int .u32 c.g, .int .i64 c.t] 80)) := (Below.refl _ _).alloc (Nat.le_refl _) _
  have h2 := h1.fresh b1 (Nat.le_refl _) (by simp)
  rw [z0] at h2
  have n2 : Has (w0.alloc (.cells #[.int .u32 c.s, .int .u32 c.g, .int .i64 c.t] 80)) (w.heap.size + 1) 80 #[.int .u32 c.s, .int .u32 c.g, .int .i64 c.t] := by rw [← z0]; exact heap_alloc_new w0 _
  have H2 := Lib.hid h2
  have N2 := Lib.hid n2
  have N1 := Lib.hid (n1.alloc (.cells #[.int .u32 c.s, .int .u32 c.g, .int .i64 c.t] 80))
  have HB := Lib.hid (Below.step b0 b1 (Nat.le_refl _))
  have HL := Lib.hid hlen
  have HD := Lib.hid hbd
  clear h h1 h2 n1 n2 b0 b1 e hlen hbd h0
  go_enter Tryd.func18, Tryd.ntmps18
  go_wp2
  clear hl c1 lh hw0 z0
  generalize w0.alloc (.cells #[.int .u32 c.s, .int .u32 c.g, .int .i64 c.t] 80) = w1 at *
  have hsz := H2.out.bl
  go_region_held3 (fun w' => w'.cell? ⟨hh, 0, none⟩ = some (.pointer (some ⟨g, 0, none⟩)) ∧ w'.cell? ⟨w.heap.size + 1, 0, none⟩ = some (.int .u32 c.s) ∧ w'.cell? ⟨w.heap.size + 1, 1, none⟩ = some (.int .u32 c.g))
    (first | exact ⟨H3.out.c0, M3.out.cell 0, M3.out.cell 1⟩ | exact ⟨H2.out.c0, N2.out.cell 0, N2.out.cell 1⟩)
    (first | (go_at_call 39; refine (get_bl H2.out.drew.sc c.s c.g HD.out.1 HD.out.2.1 HD.out.2.2.1).mono ?_; rintro e w2 ⟨rfl, b2⟩; have H3 := Lib.hid (H2.out.drew.below b2); have M3 := Lib.hid (N2.out.drew.next b2); have P3 := Lib.hid (N1.out.drew.next b2); have Q3 := Lib.hid (Below.step HB.out.drew b2 (Nat.le_refl _)); clear b2))
  generalize hit S.s.l c.s c.g = t1 at *
  have hF : ∀ (l : List UInt8) (u : World), l.length ≤ 1024 → Calls Tryd.prog 40 #[.string (str l)] u (FaceN l u) := fun l u hl => wget_new (str l) l u (str_data l) (by rw [str_size]; omega)
  generalize got S.s c.s c.g = l at *
  have HF := Lib.hid hF
  clear hF
  go_wp2_with fail
  refine (HF.out l _ HL.out).mono ?_
  rintro e w3 ⟨A, rfl, b3, hL, hA⟩
  have hp : w.heap.size < w2.heap.size := P3.out.lt
  have N3 := Lib.hid (P3.out.below b3 hp)
  have B3 := Lib.hid (Below.step Q3.out b3 (Nat.le_refl _))
  have hgk := gE_ok l
  have HLI := Lib.hid hL
  generalize gE l = x at *
  have HP := Lib.hid hp
  clear b3 hL H2 H3 HB M3 P3 Q3 N1 N2 hp
  unfold ev
  generalize hn : (gV l).length = n at *
  generalize hK : gK l = K0 at *
  generalize hT : gT l = T0 at *
  have HN := Lib.hid (And.intro hn (And.intro hK hT))
  clear hn hK hT
  have f0 := N3.out.free 0
  have f1 := N3.out.free 1
  have f2 := N3.out.free 2
  obtain ⟨y0, y1, y2⟩ := N3.out.three
  have hp3 := N3.out.lt
  go_wp2
  have R := (((N3.out.put 0 (.int .i64 K0)).put 1 (.int .i64 T0)).put 2 (.slice A n n)).alloc (.cells #[.int .i64 K0, .int .i64 T0, .slice A n n] 35)
  have hR0 := R.cell 0
  have hR1 := R.cell 1
  have hR2 := R.cell 2
  simp at hR0 hR1 hR2
  refine bodyPost_ret (v := .tuple #[.agg #[.int .i64 K0, .int .i64 T0, .slice A n n], .bool (gok l)]) (by simp [results, Tryd.results18, go_sem, hR0, hR1, hR2]) rfl ?_
  have hlie : Lies (((w3.setCell ⟨w.heap.size, 0, none⟩ (.int .i64 K0)).setCell ⟨w.heap.size, 1, none⟩ (.int .i64 T0)).setCell ⟨w.heap.size, 2, none⟩ (.slice A n n)) A (ints (gV l)) := by
    intro i u hu
    obtain ⟨x, e1, hx⟩ := HLI.out i u hu
    have hne : w.heap.size ≠ (x.add i).block := by
      have h1 := hA x e1
      have h2 := HP.out
      have h3 : (x.add i).block = x.block := by unfold Addr.add; split <;> rfl
      omega
    refine ⟨x, e1, ?_⟩
    rw [World.cell?_setCell_other _ _ _ _ (fun e => hne (congrArg Addr.block e)), World.cell?_setCell_other _ _ _ _ (fun e => hne (congrArg Addr.block e)), World.cell?_setCell_other _ _ _ _ (fun e => hne (congrArg Addr.block e))]
    exact hx
  have hsz3 : w.heap.size ≤ (((w3.setCell ⟨w.heap.size, 0, none⟩ (.int .i64 K0)).setCell ⟨w.heap.size, 1, none⟩ (.int .i64 T0)).setCell ⟨w.heap.size, 2, none⟩ (.slice A n n)).heap.size := by simp [World.setCell]; omega
  refine ⟨A, ?_, (((B3.out.setCell (p := ⟨w.heap.size, 0, none⟩) (by simp) _).setCell (p := ⟨w.heap.size, 1, none⟩) (by simp) _).setCell (p := ⟨w.heap.size, 2, none⟩) (by simp) _).alloc hsz3 _, hlie.alloc _, fun x hx => by have h1 := hA x hx; have h2 := HP.out; omega⟩
  rw [HN.out.1, HN.out.2.1, HN.out.2.2]
  rfl
/-- Numbers that lie below B, or in a block of K. -/
structure Ly (B : Nat) (K : List Nat) (w : World) (A : Option Addr) (l : List Int) : Prop where
  li : Lies w A (ints l)
  bl : l ≠ [] → ∀ x, A = some x → x.block < B ∨ x.block ∈ K
theorem add_block (x : Addr) (i : Nat) : (x.add i).block = x.block := by unfold Addr.add; split <;> rfl
theorem Ly.kp {w w' : World} {B : Nat} {K : List Nat} {A : Option Addr} {l : List Int} (h : Ly B K w A l) (k : Kp B K w w') : Ly B K w' A l :=
  ⟨fun i u hu => by
    obtain ⟨x, rfl, hx⟩ := h.li i u hu
    refine ⟨x, rfl, ?_⟩
    have hne : l ≠ [] := fun e => by rw [e] at hu; simp at hu
    rcases h.bl hne x rfl with hb | hb
    · exact (k.bel.cell (p := x.add i) (by rw [add_block]; exact hb)).trans hx
    · have hc : (x.add i).block = x.block := add_block x i
      have := k.blk _ hb
      rw [← hc] at this
      unfold World.cell? at hx ⊢
      rw [this]
      exact hx, h.bl⟩
theorem Ly.below {w w' : World} {B : Nat} {K : List Nat} {A : Option Addr} {l : List Int} (h : Ly B K w A l) (k : Below w.heap.size w w') : Ly B K w' A l := ⟨h.li.below k, h.bl⟩
theorem Ly.mono {w : World} {B : Nat} {K K' : List Nat} {A : Option Addr} {l : List Int} (h : Ly B K w A l) (k : ∀ q ∈ K, q ∈ K') : Ly B K' w A l := ⟨h.li, fun hn x e => (h.bl hn x e).imp id (k _)⟩
theorem Ly.lo {w : World} {B : Nat} {K : List Nat} {A : Option Addr} {l : List Int} (h : Lies w A (ints l)) (hB : w.heap.size ≤ B) : Ly B K w A l := ⟨h, fun hn x e => .inl (by
  cases l with
  | nil => exact (hn rfl).elim
  | cons a r =>
    obtain ⟨y, e2, hy⟩ := h 0 _ rfl
    cases e.symm.trans e2
    have := World.block_lt_of_cell? _ _ hy
    rw [add_block] at this
    omega)⟩
/-- The block of numbers that came new. -/
def kA (A : Option Addr) (l : List Int) : List Nat := if l = [] then [] else match A with
  | some x => [x.block]
  | none => []
theorem St.took (h : St w B g hh m N S K) {w' : World} {A : Option Addr} {l : List Int} (hb : Below w.heap.size w w') (hl : Lies w' A (ints l)) (hA : ∀ x : Addr, A = some x → w.heap.size ≤ x.block) :
    St w' B g hh m N S (kA A l ++ K) ∧ Ly B (kA A l ++ K) w' A l := by
  have hk : ∀ k ∈ kA A l, w.heap.size ≤ k ∧ k < w'.heap.size := fun k hk => by
    unfold kA at hk
    split at hk
    · cases hk
    · rename_i hn
      cases A with
      | none => cases hk
      | some x =>
        obtain rfl : k = x.block := by simpa using hk
        refine ⟨hA x rfl, ?_⟩
        cases l with
        | nil => exact (hn rfl).elim
        | cons a r =>
          obtain ⟨y, e2, hy⟩ := hl 0 _ rfl
          cases e2
          have := World.block_lt_of_cell? _ _ hy
          rwa [add_block] at this
  refine ⟨(h.tn (T := []) (.of_below hb) (fun k hk => by cases hk) (fun k h1 => ?_)).1, hl, fun hn x e => .inr ?_⟩
  · rcases List.mem_append.1 h1 with h1 | h1
    · exact .inr (hk k h1)
    · exact .inl h1
  · unfold kA
    rw [if_neg hn, e]
    simp
theorem stget_any (h : St w B g hh m N S K) (ix : Int) (hix : I64 ix) :
    Calls Tryd.prog 18 #[.pointer (some ⟨hh, 0, none⟩), .int .i64 ix] w (StGot (sbyt S ix) w) := by
  cases h0 : S.f ix with
  | none => exact stget_no h ix hix h0
  | some c => exact stget_yes h ix hix c h0
end
end Go.Proofs.YtglhebpblncjaaaDoor
