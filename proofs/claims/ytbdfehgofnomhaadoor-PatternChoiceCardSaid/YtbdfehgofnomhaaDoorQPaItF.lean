/- Layer 9: an item that bytes make: what is asked of it, its end. -/
import Derived.Test.YtbdfehgofnomhaaDoorQRd
import Derived.Test.YtbdfehgofnomhaaDoorQEx
import Derived.Test.YtbdfehgofnomhaaDoorQTr
import Derived.Test.YtbdfehgofnomhaaDoorQMe
namespace Go.Proofs.YtbdfehgofnomhaaDoor
open Go.RowKit
set_option linter.unusedVariables false

/-- What an item that bytes make is, so deep. -/
def ItemC (deep : Int) (W m : Nat) (B : Int) : Prop := ∀ (wp : World) (p : Nat) (K : PK) (w : World) (no : Bool), Rd wp p K w → (0 ≤ K.M ∧ K.M ≤ B) →
  Calls Tryd.prog 50 #[.pointer (some ⟨p, 0, none⟩), .int .i64 deep, .bool no] w fun e w' => ∃ (t : IT) (K' : PK), e = .returned (.agg (csI t)) ∧ (rightI t = true ∧ wtI t ≤ W ∧ t.In (Ot w.heap.size p K' w')) ∧ Rd wp p K' w' ∧ FrI p K w K' w' ∧ (K.M + 1 ≤ K'.M ∧ K'.M ≤ K.M + m)
/-- What items that bytes make are. -/
def ItemsC (deep most : Int) (W m : Nat) (B : Int) : Prop := ∀ (wp : World) (p : Nat) (K : PK) (w : World), Rd wp p K w → (0 ≤ K.M ∧ K.M ≤ B) →
  Calls Tryd.prog 33 #[.pointer (some ⟨p, 0, none⟩), .int .i64 deep, .int .i64 most] w fun e w' => ∃ (A : Option Addr) (c : Nat) (l : List IT) (K' : PK), e = .returned (.slice A l.length c) ∧ okS A l.length c ∧ (rightIs l = true ∧ wtIs l ≤ W ∧ Its (Ot w.heap.size p K' w') A l) ∧ Rd wp p K' w' ∧ FrI p K w K' w' ∧ (K.M ≤ K'.M ∧ K'.M ≤ K.M + m)
theorem Pd.count {w0 w : World} {p : Nat} {K : PK} (h : Pd w0 p K w) : w.cell? ⟨p, 4, none⟩ = some (.int .i64 K.M) ∧ w.frozen? ⟨p, 4, none⟩ = false
    ∧ ∀ M, Pd w0 p (K.setM M) (w.setCell ⟨p, 4, none⟩ (.int .i64 M)) ∧ FrP p w (w.setCell ⟨p, 4, none⟩ (.int .i64 M)) := by
  obtain ⟨i, h1, h2, h3⟩ := h
  refine ⟨h2.cell 4, h2.free 4, fun M => ?_⟩
  have hf := FrP.set (p := p) h2.lt 4 (.int .i64 M)
  have hs : w0.heap.size ≤ w.heap.size := by have := h1.size; rwa [hid_size] at this
  have hp := h2.put 4 (.int .i64 M)
  refine ⟨⟨i, h1.trans (Below.mono (show Below w.heap.size (hidB p w) (hidB p (w.setCell ⟨p, 4, none⟩ (.int .i64 M))) from hf) hs), ?_, h3⟩, hf⟩
  simp at hp
  exact hp
theorem names3_at : ∀ j, j < 3 → ∃ s : Nm, ([[65], [66], [67]] : List Nm)[j]? = some s ∧ nameB s = true
  | 0, _ => ⟨_, rfl, by kernel_rfl⟩
  | 1, _ => ⟨_, rfl, by kernel_rfl⟩
  | 2, _ => ⟨_, rfl, by kernel_rfl⟩
  | n + 3, h => absurd h (by omega)
theorem names12_at : ∀ j, j < 12 → ∃ s : Nm, ([[97], [98], [99], [100], [101], [102], [103], [104], [105], [106], [108], [109]] : List Nm)[j]? = some s ∧ nameB s = true
  | 0, _ => ⟨_, rfl, by kernel_rfl⟩
  | 1, _ => ⟨_, rfl, by kernel_rfl⟩
  | 2, _ => ⟨_, rfl, by kernel_rfl⟩
  | 3, _ => ⟨_, rfl, by kernel_rfl⟩
  | 4, _ => ⟨_, rfl, by kernel_rfl⟩
  | 5, _ => ⟨_, rfl, by kernel_rfl⟩
  | 6, _ => ⟨_, rfl, by kernel_rfl⟩
  | 7, _ => ⟨_, rfl, by kernel_rfl⟩
  | 8, _ => ⟨_, rfl, by kernel_rfl⟩
  | 9, _ => ⟨_, rfl, by kernel_rfl⟩
  | 10, _ => ⟨_, rfl, by kernel_rfl⟩
  | 11, _ => ⟨_, rfl, by kernel_rfl⟩
  | n + 12, h => absurd h (by omega)
theorem set_belowN {w : World} {g B i : Nat} (h : B ≤ g) (u : Value) : Below B w (w.setCell ⟨g, i, none⟩ u) := (Below.refl B w).setCell (p := ⟨g, i, none⟩) h u
/-- A block set to an item. -/
def S7 (X : World) (q : Nat) (t : IT) : World := set7 X q (.int .i64 t.k) (.string (str t.nm)) (.string (str t.vr)) (.slice t.pA t.ps.length t.pc) (.int .i64 t.lo) (.int .i64 t.hi) (.slice t.kA t.ks.length t.kc)
theorem set7_same {w : World} {p q : Nat} (u0 u1 u2 u3 u4 u5 u6 : Value) (h : q ≠ p) : (set7 w p u0 u1 u2 u3 u4 u5 u6).heap[q]? = w.heap[q]? := by
  unfold set7
  have hs : ∀ (w : World) i u, (w.setCell ⟨p, i, none⟩ u).heap[q]? = w.heap[q]? := fun w i u => by
    simp [World.setCell, Array.getElem?_modify, Ne.symm h]
  rw [hs, hs, hs, hs, hs, hs, hs]
theorem set7_size (w : World) (p : Nat) (u0 u1 u2 u3 u4 u5 u6 : Value) : (set7 w p u0 u1 u2 u3 u4 u5 u6).heap.size = w.heap.size := by simp [set7, World.setCell]
/-- The end: the item is laid in the result's cell. -/
theorem item_fin {wp w X : World} {p : Nat} {K K' : PK} (R : Rd wp p K' X) (F : FrI p K w K' X) (h : Rd wp p K w) (H6 : Has X w.heap.size 42 zer7) (t : IT) (hn : rdOwn p K' w.heap.size = false) (ht : t.In (Ot (w.heap.size + 1) p K' X)) :
    Rd wp p K' (S7 X w.heap.size t) ∧ FrI p K w K' (S7 X w.heap.size t) ∧ Has (S7 X w.heap.size t) w.heap.size 42 (csI t) ∧ t.In (Ot w.heap.size p K' (S7 X w.heap.size t)) := by
  have b1 : Below w.heap.size X (S7 X w.heap.size t) := set7_below (Nat.le_refl _) _ _ _ _ _ _ _
  refine ⟨?_, F.belowB b1, set7_has H6 _ _ _ _ _ _ _, ?_⟩
  · refine R.other (b1.mono h.bel.size) fun q hq => ?_
    exact set7_same _ _ _ _ _ _ _ fun e => by rw [e, hn] at hq; cases hq
  · refine IT.In.imp (fun a v hv => ?_) t ht
    obtain ⟨h1, h2⟩ := hidS_cell hv
    obtain ⟨h3, h4⟩ := nwS_not.1 h1
    exact cell_hidS (nwS_not.2 ⟨by omega, h4⟩) ((cell_block (set7_same _ _ _ _ _ _ _ (by omega))).trans h2)
theorem right_named {k lo hi : Int} {nm vr : Nm} {A : Option Addr} {c : Nat} {ps : List ET} (hk : ((k = 0 ∨ k = 2) ∧ lo = 0 ∧ hi = 0) ∨ (k = 1 ∧ 1 ≤ lo ∧ lo ≤ hi ∧ hi ≤ 4)) (hn : nameB nm = true) (hv : nameB vr = true) (h1 : ps.length ≤ 1) (h2 : ps.all rightT = true) : rightI (.mk k nm vr A c ps lo hi none 0 [] []) = true := by
  rw [rightI, if_neg (by omega), hn, hv, h2]
  rcases hk with ⟨h3 | h3, rfl, rfl⟩ | ⟨h3, h4, h5, h6⟩ <;> subst h3 <;> simp_all
theorem wt_named {k lo hi : Int} {nm vr : Nm} {A : Option Addr} {c : Nat} {ps : List ET} (h : sizeL ps ≤ 15) : wtI (.mk k nm vr A c ps lo hi none 0 [] []) ≤ 16 := by
  rw [wtI_mk, wtKs_nil]; omega
theorem in_named {X : World} {k lo hi : Int} {nm vr : Nm} {A : Option Addr} {c : Nat} {ps : List ET} (hk : 0 ≤ k ∧ k ≤ 3) (hl : 0 ≤ lo ∧ lo ≤ 4) (hh : 0 ≤ hi ∧ hi ≤ 4) (hn : nameB nm = true) (hv : nameB vr = true) (ho : okS A ps.length c) (E : Ets X A ps) : IT.In X (.mk k nm vr A c ps lo hi none 0 [] []) := by
  have h1 := name_len hn
  have h2 := name_len hv
  exact .of ⟨⟨by omega, by omega⟩, ⟨by omega, by omega⟩, ⟨by omega, by omega⟩, by omega, by omega, ho, ⟨fun _ => rfl, Nat.le_refl _, Nat.zero_le _⟩⟩ E rfl fun j hj => by simp at hj
theorem setCell_ne {w : World} {g b i : Nat} (u : Value) (h : b ≠ g) : (w.setCell ⟨g, i, none⟩ u).heap[b]? = w.heap[b]? := by
  simp [World.setCell, Array.getElem?_modify, Ne.symm h]
theorem ets_out {p N M : Nat} {K : PK} {w2 X7 : World} {A : Option Addr} {ps : List ET} (E : Ets (hidL N w2) A ps) (hN : M ≤ N) (hb : ∀ b, N ≤ b → X7.heap[b]? = w2.heap[b]?) (ho : ∀ b, N ≤ b → rdOwn p K b = false) : Ets (Ot M p K X7) A ps :=
  E.imp fun a v hv => by
    obtain ⟨h1, h2⟩ := hidL_cell hv
    exact cell_hidS (nwS_not.2 ⟨Nat.le_trans hN h1, ho _ h1⟩) ((cell_block (hb _ h1)).trans h2)
theorem set7_fold (w : World) (q : Nat) (u0 u1 u2 u3 u4 u5 u6 : Value) : ((((((w.setCell ⟨q, 0, none⟩ u0).setCell ⟨q, 1, none⟩ u1).setCell ⟨q, 2, none⟩ u2).setCell ⟨q, 3, none⟩ u3).setCell ⟨q, 4, none⟩ u4).setCell ⟨q, 5, none⟩ u5).setCell ⟨q, 6, none⟩ u6 = set7 w q u0 u1 u2 u3 u4 u5 u6 := rfl
end Go.Proofs.YtbdfehgofnomhaaDoor
