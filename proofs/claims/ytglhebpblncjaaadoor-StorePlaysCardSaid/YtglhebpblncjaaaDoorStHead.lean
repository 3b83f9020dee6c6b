/- The chapter's examples, which each statement on stores asks first, tell true. -/
import Derived.Test.YtglhebpblncjaaaDoorStGet
namespace Go.Proofs.YtglhebpblncjaaaDoor
open Go.RowKit
set_option linter.unusedVariables false

/-- A store, an event in a variable of the statement's own, its numbers. -/
structure Xs (w0 : World) (B g hh m p : Nat) (Kd T : Int) (A : Option Addr) (n c : Nat) (l : List Int) (N : Nat) (S : Sv) (K : List Nat) (w : World) : Prop where
  st : St w B g hh m N S K
  ev : Has w p 35 #[.int .i64 Kd, .int .i64 T, .slice A n c]
  pk : p ∈ K
  ly : Ly B K w A l
  bel : Below w0.heap.size w0 w
  hB : w0.heap.size ≤ B
section
variable {w0 w w' : World} {B g hh m p : Nat} {Kd T : Int} {A : Option Addr} {n c : Nat} {l : List Int} {N N' : Nat} {S S' : Sv} {K : List Nat}
theorem Xs.deed (h : Xs w0 B g hh m p Kd T A n c l N S K w) (a : St w' B g hh m N' S' K) (k : Kp B K w w') : Xs w0 B g hh m p Kd T A n c l N' S' K w' :=
  ⟨a, k.has h.pk h.ev, h.pk, h.ly.kp k, h.bel.trans (k.bel.mono h.hB), h.hB⟩
theorem Xs.below (h : Xs w0 B g hh m p Kd T A n c l N S K w) (hb : Below w.heap.size w w') : Xs w0 B g hh m p Kd T A n c l N S K w' := h.deed (h.st.below hb) (h.st.kp hb)
theorem Xs.took {A' : Option Addr} {l' : List Int} (h : Xs w0 B g hh m p Kd T A n c l N S K w) (hb : Below w.heap.size w w') (hl : Lies w' A' (ints l')) (hA : ∀ x : Addr, A' = some x → w.heap.size ≤ x.block) :
    Xs w0 B g hh m p Kd T A n c l N S (kA A' l' ++ K) w' ∧ Ly B (kA A' l' ++ K) w' A' l' := by
  obtain ⟨a1, a2⟩ := h.st.took hb hl hA
  have b := h.below hb
  exact ⟨⟨a1, b.ev, List.mem_append_right _ b.pk, b.ly.mono fun q hq => List.mem_append_right _ hq, b.bel, b.hB⟩, a2⟩
/-- A variable that is boxed. -/
theorem Xs.box (h : Xs w0 B g hh m p Kd T A n c l N S K w) (o : Obj) : Xs w0 B g hh m p Kd T A n c l N S (w.heap.size :: K) (w.alloc o) := by
  have hb : Below w.heap.size w (w.alloc o) := (Below.refl _ _).alloc (Nat.le_refl _) o
  have b := h.below hb
  exact ⟨h.st.fresh hb (Nat.le_refl _) (by simp), b.ev, List.mem_cons_of_mem _ b.pk, b.ly.mono fun q hq => List.mem_cons_of_mem _ hq, b.bel, b.hB⟩
end
def x0 : Sv := ⟨⟨40, 40, []⟩, fun _ => none, 0⟩
def x1 : Sv := sput x0 0 (wok 1 [9]) (wput 1 5 [9])
def x2 : Sv := shold x1 0
def x3 : Sv := sdrop x2 0
def x4 : Sv := sdrop x3 0
theorem p01 : perr x0 0 (wok 1 [9]) (wput 1 5 [9]) = 0 ∧ sput x0 0 (wok 1 [9]) (wput 1 5 [9]) = x1 := ⟨by kernel_rfl, rfl⟩
theorem p11 : perr x1 0 (wok 1 [9]) (wput 1 5 [9]) = 1 ∧ sput x1 0 (wok 1 [9]) (wput 1 5 [9]) = x1 := by
  have h : perr x1 0 (wok 1 [9]) (wput 1 5 [9]) = 1 := by kernel_rfl
  exact ⟨h, by unfold sput; rw [h]; rfl⟩
theorem p12 : perr x1 1 (wok 1 [9]) (wput 1 5 [9]) = 9 ∧ sput x1 1 (wok 1 [9]) (wput 1 5 [9]) = x1 := by
  have h : perr x1 1 (wok 1 [9]) (wput 1 5 [9]) = 9 := by kernel_rfl
  exact ⟨h, by unfold sput; rw [h]; rfl⟩
theorem h12 : (x1.f 0).isSome = true ∧ shold x1 0 = x2 := ⟨by kernel_rfl, rfl⟩
theorem d23 : (x2.f 0).isSome = true ∧ sdrop x2 0 = x3 := ⟨by kernel_rfl, rfl⟩
theorem g3 : gK (sbyt x3 0) = 1 ∧ gT (sbyt x3 0) = 5 ∧ gV (sbyt x3 0) = [9] ∧ gok (sbyt x3 0) = true := ⟨by kernel_rfl, by kernel_rfl, by kernel_rfl, by kernel_rfl⟩
theorem c3 : scnt x3 0 = 1 ∧ chg x3.s.l = 32 := ⟨by kernel_rfl, by kernel_rfl⟩
theorem d34 : (x3.f 0).isSome = true ∧ sdrop x3 0 = x4 := ⟨by kernel_rfl, rfl⟩
theorem g4 : gK (sbyt x4 0) = 0 ∧ gT (sbyt x4 0) = 0 ∧ gV (sbyt x4 0) = [] ∧ gok (sbyt x4 0) = false ∧ chg x4.s.l = 0 := ⟨by kernel_rfl, by kernel_rfl, by kernel_rfl, by kernel_rfl, by kernel_rfl⟩
theorem d44 : (x4.f 0).isSome = false ∧ (x4.f 1).isSome = false ∧ x4.n = 0 := ⟨by kernel_rfl, by kernel_rfl, by kernel_rfl⟩
theorem p4 : perr x4 2 (wok (-1) []) (wput (-1) 0 []) = 7 := by kernel_rfl
end Go.Proofs.YtglhebpblncjaaaDoor
