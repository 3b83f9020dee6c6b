/- Layer 7: the statements' struct of an expression and bytes, opened: what its eight cells are. -/
import Derived.Test.YtbhjimlikffalaaDoorExRow
import Derived.Lib.SmallJoins
namespace Go.Proofs.YtbhjimlikffalaaDoor
open Go.ChangeShapes Go.WideShapes Go.ChangeAt Go.RowKit
set_option linter.unusedVariables false

section
variable {H : Type} {enc : TypeId × Value → H} {W : World} {held : Bool}
theorem eight {cs : Array Value} (h : cs.size = 8) : ∃ u0 u1 u2 u3 u4 u5 u6 u7, cs = #[u0, u1, u2, u3, u4, u5, u6, u7] := by
  obtain ⟨l⟩ := cs
  have h : l.length = 8 := h
  match l, h with
  | [u0, u1, u2, u3, u4, u5, u6, u7], _ => exact ⟨u0, u1, u2, u3, u4, u5, u6, u7, rfl⟩
/-- An expression that came in, by its six cells. -/
theorem expr_open {fuel : Nat} {u0 u1 u2 u3 u4 u5 : Value} {x : DataW H × List MemPlace} (h : DataW.trod enc Tryd.prog W 0 (fun _ => true) held fuel 24 [u0, u1, u2, u3, u4, u5] = some x) :
    ∃ (k n : Int) (op v f : Nm) (A : Option Addr) (m c : Nat), u0 = .int .i64 k ∧ u1 = .string (str op) ∧ u2 = .int .i64 n ∧ u3 = .string (str v) ∧ u4 = .string (str f) ∧ u5 = .slice A m c := by
  obtain ⟨ys, n, _, _, hlen, hyl, hf⟩ := DataW.trod_struct Tryd.underlying24 h
  have c3 : Tryd.prog.cellsOf 3 = 1 := by kernel_rfl
  have c9 : Tryd.prog.cellsOf 9 = 1 := by kernel_rfl
  have c2 : Tryd.prog.cellsOf 2 = 1 := by kernel_rfl
  have c22 : Tryd.prog.cellsOf 22 = 1 := by kernel_rfl
  have h0 : DataW.trod enc Tryd.prog W 0 (fun _ => true) held n 3 ((([u0, u1, u2, u3, u4, u5] : List Value).drop 0).take (Tryd.prog.cellsOf 3)) = ys[0]? := hf 0 _ rfl
  have h1 : DataW.trod enc Tryd.prog W 0 (fun _ => true) held n 9 ((([u0, u1, u2, u3, u4, u5] : List Value).drop 1).take (Tryd.prog.cellsOf 9)) = ys[1]? := hf 1 _ rfl
  have h2 : DataW.trod enc Tryd.prog W 0 (fun _ => true) held n 2 ((([u0, u1, u2, u3, u4, u5] : List Value).drop 2).take (Tryd.prog.cellsOf 2)) = ys[2]? := hf 2 _ rfl
  have h3 : DataW.trod enc Tryd.prog W 0 (fun _ => true) held n 9 ((([u0, u1, u2, u3, u4, u5] : List Value).drop 3).take (Tryd.prog.cellsOf 9)) = ys[3]? := hf 3 _ rfl
  have h4 : DataW.trod enc Tryd.prog W 0 (fun _ => true) held n 9 ((([u0, u1, u2, u3, u4, u5] : List Value).drop 4).take (Tryd.prog.cellsOf 9)) = ys[4]? := hf 4 _ rfl
  have h5 : DataW.trod enc Tryd.prog W 0 (fun _ => true) held n 22 ((([u0, u1, u2, u3, u4, u5] : List Value).drop 5).take (Tryd.prog.cellsOf 22)) = ys[5]? := hf 5 _ rfl
  rw [c3] at h0
  rw [c9] at h1 h3 h4
  rw [c2] at h2
  rw [c22] at h5
  simp only [List.drop_zero, List.take_succ_cons, List.take_zero, List.drop_succ_cons] at h0 h1 h2 h3 h4 h5
  have hy : ys.length = 6 := hyl
  rw [List.getElem?_eq_getElem (by omega)] at h0 h1 h2 h3 h4 h5
  obtain ⟨k, e0, _, _⟩ := DataW.trod_int Tryd.underlying3 h0
  obtain ⟨s1, e1, _, _⟩ := DataW.trod_string Tryd.underlying9 h1
  obtain ⟨m, e2, _, _⟩ := DataW.trod_int Tryd.underlying2 h2
  obtain ⟨s3, e3, _, _⟩ := DataW.trod_string Tryd.underlying9 h3
  obtain ⟨s4, e4, _, _⟩ := DataW.trod_string Tryd.underlying9 h4
  simp at e0 e1 e2 e3 e4
  rcases DataW.trod_slice Tryd.underlying22 h5 with ⟨e5, _⟩ | ⟨a, len, cap, _, _, _, _, e5, _⟩
  · simp at e5
    exact ⟨k, m, s1.data.toList, s3.data.toList, s4.data.toList, none, 0, 0, e0, by rw [e1, str_of], e2, by rw [e3, str_of], by rw [e4, str_of], e5⟩
  · simp at e5
    exact ⟨k, m, s1.data.toList, s3.data.toList, s4.data.toList, some a, len, cap, e0, by rw [e1, str_of], e2, by rw [e3, str_of], by rw [e4, str_of], e5⟩
set_option maxRecDepth 100000 in
theorem tree_open {r : Reach} {b0 : Nat} {v : Value} {d : DataW H} {p : List MemPlace} (hv : Value.okWide Tryd.prog W r b0 27 v) (h : DataW.Trod enc Tryd.prog W 0 (fun _ => true) held 27 v d p) :
    ∃ (k n : Int) (op v' f : Nm) (A : Option Addr) (m c : Nat) (o : Bool) (a : Option Addr) (len cap : Nat) (zs : List Int), v = .agg #[.int .i64 k, .string (str op), .int .i64 n, .string (str v'), .string (str f), .slice A m c, .bool o, .slice a len cap] ∧ IsRow .u8 W a len cap zs ∧ ∀ z ∈ zs, 0 ≤ z ∧ z ≤ 255 := by
  obtain ⟨cs, rfl, hsz⟩ := okWide_struct Tryd.underlying27 hv
  have c27 : Tryd.prog.cellsOf 27 = 8 := by kernel_rfl
  rw [c27] at hsz
  obtain ⟨u0, u1, u2, u3, u4, u5, u6, u7, rfl⟩ := eight hsz
  obtain ⟨fuel, ht⟩ := h
  obtain ⟨ys, n, _, _, hlen, hyl, hf⟩ := DataW.trod_struct Tryd.underlying27 ht
  have c24 : Tryd.prog.cellsOf 24 = 6 := by kernel_rfl
  have c4 : Tryd.prog.cellsOf 4 = 1 := by kernel_rfl
  have c25 : Tryd.prog.cellsOf 25 = 1 := by kernel_rfl
  simp only [Value.cells] at hf
  have h0 : DataW.trod enc Tryd.prog W 0 (fun _ => true) held n 24 ((([u0, u1, u2, u3, u4, u5, u6, u7] : List Value).drop 0).take (Tryd.prog.cellsOf 24)) = ys[0]? := hf 0 _ rfl
  have h1 : DataW.trod enc Tryd.prog W 0 (fun _ => true) held n 4 ((([u0, u1, u2, u3, u4, u5, u6, u7] : List Value).drop 6).take (Tryd.prog.cellsOf 4)) = ys[1]? := hf 1 _ rfl
  have h2 : DataW.trod enc Tryd.prog W 0 (fun _ => true) held n 25 ((([u0, u1, u2, u3, u4, u5, u6, u7] : List Value).drop 7).take (Tryd.prog.cellsOf 25)) = ys[2]? := hf 2 _ rfl
  rw [c24] at h0
  rw [c4] at h1
  rw [c25] at h2
  simp only [List.drop_zero, List.take_succ_cons, List.take_zero, List.drop_succ_cons] at h0 h1 h2
  have hy : ys.length = 3 := hyl
  rw [List.getElem?_eq_getElem (by omega)] at h0 h1 h2
  obtain ⟨k, m', op, v', f, A, m, c, rfl, rfl, rfl, rfl, rfl, rfl⟩ := expr_open h0
  obtain ⟨o, e1, _⟩ := DataW.trod_bool Tryd.underlying4 h1
  simp at e1
  subst e1
  rcases DataW.trod_slice Tryd.underlying25 h2 with ⟨e2, _⟩ | ⟨a, len, cap, _, _, _, _, e2, _⟩
  · simp at e2
    subst e2
    exact ⟨k, m', op, v', f, A, m, c, o, none, 0, 0, [], rfl, ⟨Nat.le_refl _, rfl, Nat.zero_le _, fun i hi => absurd hi (by simp)⟩, fun z hz => by cases hz⟩
  · simp at e2
    subst e2
    obtain ⟨zs, hr, hw⟩ := row_open (t := 25) Tryd.underlying25 Tryd.underlying5 (by kernel_rfl) (d := (ys[2]'(by omega)).1) (p := (ys[2]'(by omega)).2) ⟨n, by simpa [Value.cells] using h2⟩
    exact ⟨k, m', op, v', f, A, m, c, o, some a, len, cap, zs, rfl, hr, fun z hz => by simpa [Lit.wf, IntKind.min, IntKind.max, IntKind.signed, IntKind.bits] using hw z hz⟩
end
end Go.Proofs.YtbhjimlikffalaaDoor
