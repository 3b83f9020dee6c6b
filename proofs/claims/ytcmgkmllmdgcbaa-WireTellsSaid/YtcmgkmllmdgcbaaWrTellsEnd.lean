/- WireTells' walk, its arguments as the row hands them. -/
import Derived.Test.YtcmgkmllmdgcbaaWrTellsWalk
namespace Go.Proofs.Ytcmgkmllmdgcbaa
open Go.RowKit
set_option linter.unusedVariables false

theorem tells_walk_ (K T : Int) (A : Option Addr) (n c : Nat) (l : List Int) (K' T' : Int) (B : Option Addr) (m d : Nat) (r : List Int) (near : Bool) (how : Nat) (u : List UInt8) (pl : Nat) (mb : Nat) (L : Option Addr) (cl : Nat) (ks : List Kd) (w : World)
    (hK : In64 K) (hT : In64 T) (hl : l.length = n) (hnc : n ≤ c) (hcm : c ≤ maxLen) (hni : A = none → c = 0) (hr : Lies w A (ints l)) (hbz : ∀ x ∈ l, In64 x)
    (hK' : In64 K') (hT' : In64 T') (hl' : r.length = m) (hnc' : m ≤ d) (hcm' : d ≤ maxLen) (hni' : B = none → d = 0) (hr' : Lies w B (ints r)) (hbz' : ∀ x ∈ r, In64 x) (hh : how < 256) (hu : u.length ≤ 1000000000000000) (hp : pl < 65536) (hmb : mb < 256) (hks : Kinds w L cl ks) (hkl : ks.length ≤ 3518437208800) :
    Calls Try.prog 3 #[ev K T A n c, ev K' T' B m d, .bool near, .int .u8 how, .string (str u), .int .u16 pl, .int .u8 mb, .slice L ks.length cl] w fun e w' => e = .returned (.bool true) ∧ Below w.heap.size w w' := by
  have := tells_walk K T A n c l K' T' B m d r near how u pl (UInt8.ofNat mb) L cl ks w hK hl hnc hcm hr hl' hnc' hcm' hr' hh hu hp hks hkl
  rwa [ofNat_toNat hmb] at this
end Go.Proofs.Ytcmgkmllmdgcbaa
