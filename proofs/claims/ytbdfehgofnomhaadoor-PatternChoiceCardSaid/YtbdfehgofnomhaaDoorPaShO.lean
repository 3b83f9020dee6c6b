/- Layer 9: the statements' struct of a query and bytes, opened: what its five cells are. -/
import Derived.Test.YtbdfehgofnomhaaDoorExRow
import Derived.Lib.SmallJoins
namespace Go.Proofs.YtbdfehgofnomhaaDoor
open Go.ChangeShapes Go.WideShapes Go.ChangeAt Go.RowKit
set_option linter.unusedVariables false

section
variable {H : Type} {enc : TypeId × Value → H} {W : World} {held : Bool}
theorem five {cs : Array Value} (h : cs.size = 5) : ∃ u0 u1 u2 u3 u4, cs = #[u0, u1, u2, u3, u4] := by
  obtain ⟨l⟩ := cs
  have h : l.length = 5 := h
  match l, h with
  | [u0, u1, u2, u3, u4], _ => exact ⟨u0, u1, u2, u3, u4, rfl⟩
/-- A query that came in, by its three cells. -/
theorem query_open {fuel : Nat} {u0 u1 u2 : Value} {x : DataW H × List MemPlace} (h : DataW.trod enc Tryd.prog W 0 (fun _ => true) held fuel 24 [u0, u1, u2] = some x) :
    ∃ (A : Option Addr) (m c : Nat) (n : Int) (y : Nm), u0 = .slice A m c ∧ u1 = .int .i64 n ∧ u2 = .string (str y) := by
  obtain ⟨ys, n, _, _, hlen, hyl, hf⟩ := DataW.trod_struct Tryd.underlying24 h
  have c22 : Tryd.prog.cellsOf 22 = 1 := by kernel_rfl
  have c2 : Tryd.prog.cellsOf 2 = 1 := by kernel_rfl
  have c9 : Tryd.prog.cellsOf 9 = 1 := by kernel_rfl
  have h0 : DataW.trod enc Tryd.prog W 0 (fun _ => true) held n 22 ((([u0, u1, u2] : List Value).drop 0).take (Tryd.prog.cellsOf 22)) = ys[0]? := hf 0 _ rfl
  have h1 : DataW.trod enc Tryd.prog W 0 (fun _ => true) held n 2 ((([u0, u1, u2] : List Value).drop 1).take (Tryd.prog.cellsOf 2)) = ys[1]? := hf 1 _ rfl
  have h2 : DataW.trod enc Tryd.prog W 0 (fun _ => true) held n 9 ((([u0, u1, u2] : List Value).drop 2).take (Tryd.prog.cellsOf 9)) = ys[2]? := hf 2 _ rfl
  rw [c22] at h0
  rw [c2] at h1
  rw [c9] at h2
  simp only [List.drop_zero, List.take_succ_cons, List.take_zero, List.drop_succ_cons] at h0 h1 h2
  have hy : ys.length = 3 := hyl
  rw [List.getElem?_eq_getElem (by omega)] at h0 h1 h2
  obtain ⟨m, e1, _, _⟩ := DataW.trod_int Tryd.underlying2 h1
  obtain ⟨s2, e2, _, _⟩ := DataW.trod_string Tryd.underlying9 h2
  simp at e1 e2
  rcases DataW.trod_slice Tryd.underlying22 h0 with ⟨e0, _⟩ | ⟨a, len, cap, _, _, _, _, e0, _⟩
  · simp at e0
    exact ⟨none, 0, 0, m, s2.data.toList, e0, e1, by rw [e2, str_of]⟩
  · simp at e0
    exact ⟨some a, len, cap, m, s2.data.toList, e0, e1, by rw [e2, str_of]⟩
set_option maxRecDepth 100000 in
theorem shape_open {r : Reach} {b0 : Nat} {v : Value} {d : DataW H} {p : List MemPlace} (hv : Value.okWide Tryd.prog W r b0 27 v) (h : DataW.Trod enc Tryd.prog W 0 (fun _ => true) held 27 v d p) :
    ∃ (A : Option Addr) (m c : Nat) (n : Int) (y : Nm) (o : Bool) (a : Option Addr) (len cap : Nat) (zs : List Int), v = .agg #[.slice A m c, .int .i64 n, .string (str y), .bool o, .slice a len cap] ∧ IsRow .u8 W a len cap zs ∧ ∀ z ∈ zs, 0 ≤ z ∧ z ≤ 255 := by
  obtain ⟨cs, rfl, hsz⟩ := okWide_struct Tryd.underlying27 hv
  have c27 : Tryd.prog.cellsOf 27 = 5 := by kernel_rfl
  rw [c27] at hsz
  obtain ⟨u0, u1, u2, u3, u4, rfl⟩ := five hsz
  obtain ⟨fuel, ht⟩ := h
  obtain ⟨ys, n, _, _, hlen, hyl, hf⟩ := DataW.trod_struct Tryd.underlying27 ht
  have c24 : Tryd.prog.cellsOf 24 = 3 := by kernel_rfl
  have c4 : Tryd.prog.cellsOf 4 = 1 := by kernel_rfl
  have c25 : Tryd.prog.cellsOf 25 = 1 := by kernel_rfl
  simp only [Value.cells] at hf
  have h0 : DataW.trod enc Tryd.prog W 0 (fun _ => true) held n 24 ((([u0, u1, u2, u3, u4] : List Value).drop 0).take (Tryd.prog.cellsOf 24)) = ys[0]? := hf 0 _ rfl
  have h1 : DataW.trod enc Tryd.prog W 0 (fun _ => true) held n 4 ((([u0, u1, u2, u3, u4] : List Value).drop 3).take (Tryd.prog.cellsOf 4)) = ys[1]? := hf 1 _ rfl
  have h2 : DataW.trod enc Tryd.prog W 0 (fun _ => true) held n 25 ((([u0, u1, u2, u3, u4] : List Value).drop 4).take (Tryd.prog.cellsOf 25)) = ys[2]? := hf 2 _ rfl
  rw [c24] at h0
  rw [c4] at h1
  rw [c25] at h2
  simp only [List.drop_zero, List.take_succ_cons, List.take_zero, List.drop_succ_cons] at h0 h1 h2
  have hy : ys.length = 3 := hyl
  rw [List.getElem?_eq_getElem (by omega)] at h0 h1 h2
  obtain ⟨A, m, c, n', y, rfl, rfl, rfl⟩ := query_open h0
  obtain ⟨o, e1, _⟩ := DataW.trod_bool Tryd.underlying4 h1
  simp at e1
  subst e1
  rcases DataW.trod_slice Tryd.underlying25 h2 with ⟨e2, _⟩ | ⟨a, len, cap, _, _, _, _, e2, _⟩
  · simp at e2
    subst e2
    exact ⟨A, m, c, n', y, o, none, 0, 0, [], rfl, ⟨Nat.le_refl _, rfl, Nat.zero_le _, fun i hi => absurd hi (by simp)⟩, fun z hz => by cases hz⟩
  · simp at e2
    subst e2
    obtain ⟨zs, hr, hw⟩ := row_open (t := 25) Tryd.underlying25 Tryd.underlying5 (by kernel_rfl) (d := (ys[2]'(by omega)).1) (p := (ys[2]'(by omega)).2) ⟨n, by simpa [Value.cells] using h2⟩
    exact ⟨A, m, c, n', y, o, some a, len, cap, zs, rfl, hr, fun z hz => by simpa [Lit.wf, IntKind.min, IntKind.max, IntKind.signed, IntKind.bits] using hw z hz⟩
end
end Go.Proofs.YtbdfehgofnomhaaDoor
