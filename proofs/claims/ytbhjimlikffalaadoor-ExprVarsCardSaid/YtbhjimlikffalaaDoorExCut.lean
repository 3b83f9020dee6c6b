/- Layer 7: a world that ends at a block; the reader at its beginning. -/
import Derived.Test.YtbhjimlikffalaaDoorExTree
import Derived.Test.YtbhjimlikffalaaDoorScRowDef
namespace Go.Proofs.YtbhjimlikffalaaDoor
open Go.RowKit
set_option linter.unusedVariables false

/-- The world without the blocks from p on. -/
def cutW (p : Nat) (W : World) : World := { W with heap := W.heap.extract 0 p }
theorem cut_size {p : Nat} {W : World} (h : p ≤ W.heap.size) : (cutW p W).heap.size = p := by simp [cutW]; omega
theorem cut_block {p q : Nat} {W : World} (h : q < p) : (cutW p W).heap[q]? = W.heap[q]? := by
  unfold cutW
  simp only [Array.getElem?_extract]
  by_cases h1 : q < min p W.heap.size - 0
  · rw [if_pos h1, Nat.zero_add]
  · rw [if_neg h1, Array.getElem?_eq_none (by omega)]
theorem cut_below {p : Nat} {W : World} (h : p ≤ W.heap.size) : Below (cutW p W).heap.size (cutW p W) W :=
  ⟨rfl, rfl, rfl, by rw [cut_size h]; exact h, fun q hq => (cut_block (by rw [cut_size h] at hq; exact hq)).symm⟩
theorem lies_cut {p : Nat} {W : World} {A : Option Addr} {xs : List Value} (h : Lies W A xs) (hA : ∀ a, 0 < xs.length → A = some a → a.block < p) : Lies (cutW p W) A xs := fun i u hu => by
  obtain ⟨x, rfl, hx⟩ := h i u hu
  have h0 : 0 < xs.length := by cases xs with
    | nil => simp at hu
    | cons _ _ => simp
  have eb : (x.add i).block = x.block := by simp only [Addr.add]; split <;> rfl
  refine ⟨x, rfl, ?_⟩
  rw [World.cell?_of_block (cut_block (by rw [eb]; exact hA x h0 rfl))]
  exact hx
theorem strs_cut {p : Nat} {W : World} {A : Option Addr} {c : Nat} {l : List Nm} (h : Strs W A c l) (hA : ∀ a, 0 < l.length → A = some a → a.block < p) : Strs (cutW p W) A c l := ⟨lies_cut h.1 (by rw [List.length_map]; exact hA), h.2⟩
theorem strs_keep {p : Nat} {W : World} {A : Option Addr} {c : Nat} {l : List Nm} (h : Strs (cutW p W) A c l) (hp : p ≤ W.heap.size) : Strs W A c l := h.below (cut_below hp)
/-- The bytes of a slice that came in. -/
theorem row_lies {W : World} {x : Option Addr} {len cap : Nat} {zs : List Int} (h : IsRow .u8 W x len cap zs) : Lies W x ((zs.take len).map (Value.int .u8)) := fun i u hu => by
  have hi : i < len ∧ i < zs.length := by
    rcases Nat.lt_or_ge i ((zs.take len).map (Value.int .u8)).length with h1 | h1
    · simp at h1; omega
    · rw [List.getElem?_eq_none h1] at hu; cases hu
  obtain ⟨y, e, hy⟩ := h.2.2.2 i hi.2
  refine ⟨y, e, ?_⟩
  rw [List.getElem?_map, List.getElem?_take, if_pos hi.1, List.getElem?_eq_getElem hi.2] at hu
  rw [hy, List.getD_eq_getElem?_getD, List.getElem?_eq_getElem hi.2]
  exact hu
/-- The reader, at the beginning of its bytes. -/
theorem fd_start {W : World} {p : Nat} {x : Option Addr} {len cap : Nat} {zs : List Int} {V O : Option Addr} (hr : IsRow .u8 W x len cap zs) (hz : ∀ n ∈ zs, 0 ≤ n ∧ n ≤ 255) (hx : ∀ a, x = some a → 0 < len → a.block < p) (hV : Strs W V 2 [[97], [98]]) (hVp : ∀ a, V = some a → a.block < p) (hO : Strs W O 2 [[65], [66]]) (hOp : ∀ a, O = some a → a.block < p)
    (hp : Has W p 67 #[.slice x len cap, .int .i64 0, .slice V 2 2, .slice O 2 2]) : FdC (cutW p W) (zs.take len) x V O len cap ∧ Fd (cutW p W) p x V O len cap 0 W := by
  have hlt := hp.lt
  have hpl : p ≤ W.heap.size := by omega
  have hl : (zs.take len).length = len := by rw [List.length_take]; have := hr.1; omega
  refine ⟨⟨hl, by have := hr.2.2.1; have := hr.1; have := hr.2.1; unfold maxLen at *; omega, fun n hn => hz n (List.mem_of_mem_take hn), lies_cut (row_lies hr) (fun a h0 ha => hx a ha (by simp at h0; omega)), strs_cut hV (fun a _ ha => hVp a ha), strs_cut hO (fun a _ ha => hOp a ha)⟩, cut_below hpl, hp, Nat.zero_le _, by rw [cut_size hpl]; exact Nat.le_refl _⟩
theorem strs_has {w : World} {q : Nat} {t : TypeId} {l : List Nm} (h : Has w q t ((l.map fun s => Value.string (str s)).toArray)) (hl : l.length ≤ 1000000) : Strs w (some ⟨q, 0, none⟩) l.length l :=
  ⟨fun i u hu => ⟨_, rfl, by rw [Go.WideShapes.add_plain, Nat.zero_add, h.cell i, List.getElem?_toArray]; exact hu⟩, (fun h => by cases h), Nat.le_refl _, by unfold maxLen; omega⟩
abbrev vCs : Array Value := #[.string { data := #[97] }, .string { data := #[98] }]
abbrev oCs : Array Value := #[.string { data := #[65] }, .string { data := #[66] }]
abbrev fCs (x : Option Addr) (len cap : Nat) (V O : Nat) : Array Value := #[.slice x len cap, .int .i64 0, .slice (some ⟨V, 0, none⟩) 2 2, .slice (some ⟨O, 0, none⟩) 2 2]
/-- A reader whose parts lie at N, N + 1, N + 2. -/
structure Rdr (N : Nat) (x : Option Addr) (len cap : Nat) (w : World) : Prop where
  v : Has w N 9 vCs
  o : Has w (N + 1) 9 oCs
  f : Has w (N + 2) 67 (fCs x len cap N (N + 1))
theorem Rdr.below {N : Nat} {x : Option Addr} {len cap : Nat} {w w' : World} (h : Rdr N x len cap w) (hb : Below w.heap.size w w') : Rdr N x len cap w' := ⟨h.v.below hb h.v.lt, h.o.below hb h.o.lt, h.f.below hb h.f.lt⟩
theorem Rdr.fr {N p : Nat} {x : Option Addr} {len cap : Nat} {w w' : World} (h : Rdr N x len cap w) (hf : FrP p w w') (hp : p < N) : Rdr N x len cap w' := ⟨hf.has h.v (by omega), hf.has h.o (by omega), hf.has h.f (by omega)⟩
theorem rdr_new (w : World) (x : Option Addr) (len cap : Nat) : Rdr w.heap.size x len cap (((w.alloc (.cells vCs 9)).alloc (.cells oCs 9)).alloc (.cells (fCs x len cap w.heap.size (w.heap.size + 1)) 67)) ∧ Below w.heap.size w (((w.alloc (.cells vCs 9)).alloc (.cells oCs 9)).alloc (.cells (fCs x len cap w.heap.size (w.heap.size + 1)) 67)) := by
  have s1 := step1 w (.cells vCs 9)
  have h1 : Has (w.alloc (.cells vCs 9)) w.heap.size 9 vCs := has_at rfl rfl
  obtain ⟨W1, e1⟩ : ∃ W, w.alloc (.cells vCs 9) = W := ⟨_, rfl⟩
  have z1 : W1.heap.size = w.heap.size + 1 := by rw [← e1]; simp
  rw [e1] at s1 h1 ⊢
  have s2 := step1 W1 (.cells oCs 9)
  have h2 : Has (W1.alloc (.cells oCs 9)) (w.heap.size + 1) 9 oCs := has_at rfl z1.symm
  obtain ⟨W2, e2⟩ : ∃ W, W1.alloc (.cells oCs 9) = W := ⟨_, rfl⟩
  have z2 : W2.heap.size = w.heap.size + 2 := by rw [← e2]; simp [z1]
  rw [e2] at s2 h2 ⊢
  have s3 := step1 W2 (.cells (fCs x len cap w.heap.size (w.heap.size + 1)) 67)
  have h3 : Has (W2.alloc (.cells (fCs x len cap w.heap.size (w.heap.size + 1)) 67)) (w.heap.size + 2) 67 (fCs x len cap w.heap.size (w.heap.size + 1)) := has_at rfl z2.symm
  have t1' := s1.trans (s2.mono s1.size)
  exact ⟨⟨(h1.below s2 h1.lt).below s3 (by have := h1.lt; have := s2.size; omega), h2.below s3 h2.lt, h3⟩, t1'.trans (s3.mono t1'.size)⟩
/-- The reader at its beginning. -/
theorem Rdr.start {N : Nat} {x : Option Addr} {len cap : Nat} {W : World} {zs : List Int} (h : Rdr N x len cap W) (hr : IsRow .u8 W x len cap zs) (hz : ∀ n ∈ zs, 0 ≤ n ∧ n ≤ 255) (hx : ∀ a, x = some a → 0 < len → a.block < N) :
    FdC (cutW (N + 2) W) (zs.take len) x (some ⟨N, 0, none⟩) (some ⟨N + 1, 0, none⟩) len cap ∧ Fd (cutW (N + 2) W) (N + 2) x (some ⟨N, 0, none⟩) (some ⟨N + 1, 0, none⟩) len cap 0 W :=
  fd_start hr hz (fun a ha h0 => by have := hx a ha h0; omega) (strs_has (l := [[97], [98]]) h.v (by simp)) (fun a ha => by cases ha; show N < N + 2; omega) (strs_has (l := [[65], [66]]) h.o (by simp)) (fun a ha => by cases ha; show N + 1 < N + 2; omega) h.f
theorem row_blocks {w : World} {x : Option Addr} {len cap : Nat} {zs : List Int} (h : IsRow .u8 w x len cap zs) : ∀ a, x = some a → 0 < len → a.block < w.heap.size := by
  intro a ha h0
  obtain ⟨b, off, e, hc⟩ := h.at_ (i := 0) (by have := h.1; omega)
  rw [ha] at e
  cases e
  exact World.block_lt_of_cell? _ _ hc
end Go.Proofs.YtbhjimlikffalaaDoor
