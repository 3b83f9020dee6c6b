/- The chapter's examples, which each statement asks first, tell true. -/
import Derived.Test.YtiandhfpdehicaaDoorArScene
import Derived.Deep.RegionHeld3
namespace Go.Proofs.YtiandhfpdehicaaDoor
open Go.RowKit
set_option linter.unusedVariables false

def hello : List UInt8 := [104, 101, 108, 108, 111]
def x0 : Ar := ⟨48, 48, []⟩
def x1 : Ar := ⟨48, 48, [⟨hello, 16, 1⟩]⟩
def x2 : Ar := ⟨48, 48, [⟨txt 16 2, 16, 1⟩]⟩
def x3 : Ar := ⟨48, 48, [⟨[], 0, 2⟩]⟩
def x4 : Ar := ⟨48, 48, [⟨[], 16, 2⟩]⟩
theorem x01 : alo x0 hello = x1 ∧ aslot x0 (hello.length : Int) = 0 ∧ agen x0 (hello.length : Int) = 1 ∧ aerr x0 (hello.length : Int) = 0 := ⟨rfl, rfl, rfl, rfl⟩
theorem x11 : alo x1 (txt 33 1) = x1 ∧ aslot x1 ((txt 33 1).length : Int) = 0 ∧ agen x1 ((txt 33 1).length : Int) = 0 ∧ aerr x1 ((txt 33 1).length : Int) = 9 := ⟨rfl, rfl, rfl, rfl⟩
theorem x1g : got x1 0 1 = hello ∧ hit x1.l 0 1 = true := ⟨rfl, rfl⟩
theorem x12 : pto x1 0 1 (txt 16 2) = x2 ∧ pok x1 0 1 ((txt 16 2).length : Int) = true := ⟨rfl, rfl⟩
theorem x22 : pto x2 0 1 (txt 17 2) = x2 ∧ pok x2 0 1 ((txt 17 2).length : Int) = false := ⟨rfl, rfl⟩
theorem x2l : sto x2 8 = x2 ∧ serr x2 8 = 9 ∧ chg x2.l = 16 := ⟨rfl, rfl, rfl⟩
theorem x23 : fro x2 0 1 = x3 ∧ hit x2.l 0 1 = true := ⟨rfl, rfl⟩
theorem x3g : got x3 0 1 = [] ∧ hit x3.l 0 1 = false ∧ fro x3 0 1 = x3 := ⟨rfl, rfl, rfl⟩
theorem x34 : alo x3 [] = x4 ∧ aslot x3 (([] : List UInt8).length : Int) = 0 ∧ agen x3 (([] : List UInt8).length : Int) = 2 ∧ aerr x3 (([] : List UInt8).length : Int) = 0 := ⟨rfl, rfl, rfl, rfl⟩
theorem x4l : liv x4.l = 1 ∧ fits x4 [32] = true ∧ fits x4 [33] = false := ⟨rfl, rfl, rfl⟩
theorem Has.two {w : World} {g : Nat} {t : TypeId} {a b : Value} (h : Has w g t #[a, b]) : w.cell? ⟨g, 0, none⟩ = some a ∧ w.cell? ⟨g, 1, none⟩ = some b := ⟨h.cell 0, h.cell 1⟩
theorem Sc.box {w : World} {B g : Nat} {s : Ar} {K : List Nat} (h : Sc w B g s K) (o : Obj) : Sc (w.alloc o) B g s (w.heap.size :: K) := h.fresh ((Below.refl _ _).alloc (Nat.le_refl _) _) (Nat.le_refl _) (by simp)
theorem Sc.alloc {w : World} {B g : Nat} {s : Ar} {K : List Nat} (h : Sc w B g s K) (o : Obj) : Sc (w.alloc o) B g s K := h.below ((Below.refl _ _).alloc (Nat.le_refl _) _)
theorem Sc.kpa {w : World} {B g : Nat} {s : Ar} {K : List Nat} (h : Sc w B g s K) (o : Obj) : Kp B K w (w.alloc o) := h.kp ((Below.refl _ _).alloc (Nat.le_refl _) _)
theorem str_hello : str (got x1 0 1) = ⟨#[104, 101, 108, 108, 111]⟩ := rfl
theorem small_len {n : Nat} (h : n ≤ 100000) : n ≤ maxLen := by unfold maxLen; omega

set_option maxHeartbeats 4000000 in
set_option maxRecDepth 100000 in
theorem examples_any (w : World) (ht : Tab w) (hT : Dbt w) :
    Calls Tryd.prog 4 #[] w fun e w' => e = .returned (.bool true) ∧ Below w.heap.size w w' := by
  have HT := Lib.hid ht
  have HD := Lib.hid hT
  clear ht hT
  go_enter Tryd.func4, Tryd.ntmps4
  go_wp2_with fail
  refine (new_sc 48 w (by omega) (by omega) HT.out HD.out).mono ?_
  rintro e w1 ⟨rfl, h1, b1⟩
  have H1 : Hid (Sc w1 w.heap.size w.heap.size x0 []) := Lib.hid h1
  have B1 := Lib.hid b1
  clear h1 b1
  have L1 : Hid (w.heap.size < w1.heap.size) := Lib.hid (by obtain ⟨v, h, _⟩ := H1.out.ar; exact h.lt)
  generalize hB : w.heap.size = B at *
  have HB := Lib.hid hB
  clear hB
  go_wp2_with fail
  refine (alloc_sc H1.out hello (by decide)).mono ?_
  rw [x01.1, x01.2.1, x01.2.2.1, x01.2.2.2]
  rintro e w2 ⟨rfl, h2, b2⟩
  have H2 := Lib.hid (h2.box (.cells #[.int .u32 0, .int .u32 1] 32))
  have C2 : Hid (Has (w2.alloc (.cells #[.int .u32 0, .int .u32 1] 32)) w2.heap.size 32 #[.int .u32 0, .int .u32 1]) := Lib.hid (heap_alloc_new w2 _)
  have B2 := Lib.hid (B1.out.trans (b2.bel.trans (h2.kpa (.cells #[.int .u32 0, .int .u32 1] 32)).bel))
  clear h2 b2
  go_wp2_with fail
  generalize w2.heap.size = p at *
  refine (text_sc H2.out 33 1 (by omega) (by omega) (by omega)).mono ?_
  rintro e w3 ⟨rfl, h3, b3⟩
  have C3 := Lib.hid (b3.has (by simp) C2.out)
  have H3 := Lib.hid h3
  have B3 := Lib.hid (B2.out.trans b3.bel)
  clear h3 b3 C2 H2 B2
  go_wp2_with fail
  refine (alloc_sc H3.out (txt 33 1) (by rw [txt_length]; exact small_len (by omega))).mono ?_
  rw [x11.1, x11.2.1, x11.2.2.1, x11.2.2.2]
  rintro e w4 ⟨rfl, h4, b4⟩
  have h40 := b4.has (by simp) C3.out
  have H4 := Lib.hid (h4.alloc (.cells #[.int .u32 0, .int .u32 0] 32))
  have C4 := Lib.hid ((h4.kpa (.cells #[.int .u32 0, .int .u32 0] 32)).has (by simp) h40)
  have B4 := Lib.hid (B3.out.trans (b4.bel.trans (h4.kpa (.cells #[.int .u32 0, .int .u32 0] 32)).bel))
  have c0 := h40.two.1
  have c1 := h40.two.2
  have cl := h40.lt
  clear h4 b4 h40 C3 H3 B3
  go_wp2_with fail
  clear c0 c1 cl
  generalize w4.alloc (.cells #[.int .u32 0, .int .u32 0] 32) = w5 at *
  refine (get_sc H4.out 0 1 (by omega) (by omega) (by omega)).mono ?_
  rw [str_hello, x1g.2]
  rintro e w6 ⟨rfl, h6, b6⟩
  have C6 := Lib.hid (b6.has (by simp) C4.out)
  have H6 := Lib.hid h6
  have B6 := Lib.hid (B4.out.trans b6.bel)
  clear h6 b6 C4 H4 B4
  go_wp2_with fail
  go_region_held3 (fun w' => w'.cell? ⟨p, 0, none⟩ = some (.int .u32 0) ∧ w'.cell? ⟨p, 1, none⟩ = some (.int .u32 1))
    (first | exact C8.out.two | exact C7.out.two | exact C6.out.two)
    (first
      | (go_at_call 7; refine (text_sc H6.out.drew 16 2 (by omega) (by omega) (by omega)).mono ?_; rintro e w7 ⟨rfl, h7, b7⟩; have C7 := Lib.hid (b7.has (by simp) C6.out); have H7 := Lib.hid h7; have B7 := Lib.hid (B6.out.drew.trans b7.bel); clear h7 b7)
      | (go_at_call 12; refine (put_sc H7.out 0 1 (by omega) (by omega) (by omega) (txt 16 2) (by rw [txt_length]; exact small_len (by omega))).mono ?_; rw [x12.1, x12.2]; rintro e w8 ⟨rfl, h8, b8⟩; have C8 := Lib.hid (b8.has (by simp) C7.out); have H8 := Lib.hid h8; have B8 := Lib.hid (B7.out.trans b8.bel); clear h8 b8))
  clear C6 H6 B6 C7 H7 B7
  go_wp2_with fail
  go_region_held3 (fun w' => w'.cell? ⟨p, 0, none⟩ = some (.int .u32 0) ∧ w'.cell? ⟨p, 1, none⟩ = some (.int .u32 1))
    (first | exact C10.out.two | exact C9.out.two | exact C8.out.two)
    (first
      | (go_at_call 7; refine (text_sc H8.out.drew 17 2 (by omega) (by omega) (by omega)).mono ?_; rintro e w9 ⟨rfl, h9, b9⟩; have C9 := Lib.hid (b9.has (by simp) C8.out); have H9 := Lib.hid h9; have B9 := Lib.hid (B8.out.drew.trans b9.bel); clear h9 b9)
      | (go_at_call 12; refine (put_sc H9.out 0 1 (by omega) (by omega) (by omega) (txt 17 2) (by rw [txt_length]; exact small_len (by omega))).mono ?_; rw [x22.1, x22.2]; rintro e w10 ⟨rfl, h10, b10⟩; have C10 := Lib.hid (b10.has (by simp) C9.out); have H10 := Lib.hid h10; have B10 := Lib.hid (B9.out.trans b10.bel); clear h10 b10))
  clear C8 H8 B8 C9 H9 B9
  go_wp2_with fail
  refine (charged_sc H10.out).mono ?_
  rw [x2l.2.2]
  rintro e w' ⟨rfl, rfl⟩
  go_wp2_with fail
  refine (setLimit_sc H10.out 8).mono ?_
  rw [x2l.1, x2l.2.1]
  rintro e w11 ⟨rfl, h11, b11⟩
  have C11 := Lib.hid (b11.has (by simp) C10.out)
  have H11 := Lib.hid h11
  have B11 := Lib.hid (B10.out.trans b11.bel)
  have c0 := C11.out.two.1
  have c1 := C11.out.two.2
  clear h11 b11 C10 H10 B10
  go_wp2_with fail
  clear c0 c1
  refine (free_sc H11.out 0 1 (by omega) (by omega) (by omega)).mono ?_
  rw [x23.1, x23.2]
  rintro e w12 ⟨rfl, h12, b12⟩
  have C12 := Lib.hid (b12.has (by simp) C11.out)
  have H12 := Lib.hid h12
  have B12 := Lib.hid (B11.out.trans b12.bel)
  have c0 := C12.out.two.1
  have c1 := C12.out.two.2
  clear h12 b12 C11 H11 B11
  go_wp2_with fail
  clear c0 c1
  refine (get_sc H12.out 0 1 (by omega) (by omega) (by omega)).mono ?_
  rw [x3g.1, x3g.2.1]
  rintro e w13 ⟨rfl, h13, b13⟩
  have C13 := Lib.hid (b13.has (by simp) C12.out)
  have H13 := Lib.hid h13
  have B13 := Lib.hid (B12.out.trans b13.bel)
  have c0 := C13.out.two.1
  have c1 := C13.out.two.2
  clear h13 b13 C12 H12 B12
  go_wp2_with fail
  clear c0 c1
  refine (free_sc H13.out 0 1 (by omega) (by omega) (by omega)).mono ?_
  rw [x3g.2.1, x3g.2.2]
  rintro e w14 ⟨rfl, h14, b14⟩
  have C14 := Lib.hid (b14.has (by simp) C13.out)
  have H14 := Lib.hid h14
  have B14 := Lib.hid (B13.out.trans b14.bel)
  clear h14 b14 C13 H13 B13
  go_wp2_with fail
  refine (alloc_sc H14.out [] (by decide)).mono ?_
  rw [x34.1, x34.2.1, x34.2.2.1, x34.2.2.2]
  rintro e w15 ⟨rfl, h15, b15⟩
  have h150 := b15.has (by simp) C14.out
  have H15 := Lib.hid (h15.alloc (.cells #[.int .u32 0, .int .u32 2] 32))
  have B15 := Lib.hid (B14.out.trans (b15.bel.trans (h15.kpa (.cells #[.int .u32 0, .int .u32 2] 32)).bel))
  have c0 := h150.two.1
  have c1 := h150.two.2
  have cl := h150.lt
  clear h15 b15 h150 C14 H14 B14
  go_wp2_with fail
  refine (live_sc H15.out).mono ?_
  rw [x4l.1]
  rintro e w' ⟨rfl, rfl⟩
  go_wp2_with fail
  refine (new_no (-1) _ (by omega)).mono ?_
  rintro e w' ⟨rfl, rfl⟩
  clear c0 c1 cl
  generalize w15.alloc (.cells #[.int .u32 0, .int .u32 2] 32) = w16 at *
  go_wp2_with fail
  refine (fits_sc (H15.out.alloc (.cells #[.int .i64 32] 3)) _ 1 1 [32] rfl (by decide) (Lies.one _ _ _)).mono ?_
  rw [x4l.2.1]
  rintro e w17 ⟨rfl, h17, b17⟩
  have H17 := Lib.hid h17
  have B17 := Lib.hid (B15.out.trans ((H15.out.kpa (.cells #[.int .i64 32] 3)).bel.trans b17.bel))
  clear h17 b17 H15 B15
  go_wp2_with fail
  refine (fits_sc (H17.out.alloc (.cells #[.int .i64 33] 3)) _ 1 1 [33] rfl (by decide) (Lies.one _ _ _)).mono ?_
  rw [x4l.2.2]
  rintro e w18 ⟨rfl, h18, b18⟩
  have B18 := Lib.hid (B17.out.trans ((H17.out.kpa (.cells #[.int .i64 33] 3)).bel.trans b18.bel))
  clear h18 b18 H17 B17
  go_wp2
  go_ret
  exact ⟨rfl, by rw [HB.out]; exact B18.out⟩
end Go.Proofs.YtiandhfpdehicaaDoor
