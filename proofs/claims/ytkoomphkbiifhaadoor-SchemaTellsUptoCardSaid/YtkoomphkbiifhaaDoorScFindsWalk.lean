/- SchemaFinds: the walk. -/
import Derived.Test.YtkoomphkbiifhaaDoorScBackWalk
import Derived.Deep.RegionHeld3
namespace Go.Proofs.YtkoomphkbiifhaaDoor
open Go.RowKit
set_option linter.unusedVariables false

def Bd (l : List Kd) : Prop := ∀ k ∈ l, k.1.length ≤ 9223372036854775807 ∧ ∀ f ∈ k.2, f.length ≤ 9223372036854775807
def SomeAny (w : World) (e : Ending) (w' : World) : Prop := ∃ (l : List Kd) (A : Option Addr) (c : Nat), Bd l ∧ e = .returned (.slice A l.length c) ∧ Kinds w' A c l ∧ Below w.heap.size w w'
theorem some_any (A : Option Addr) (c : Nat) (ks : List Kd) (o : Bool) (a : Option Addr) (len cap : Nat) (zs : List Int) (w : World) (hK : Kinds w A c ks) (hb : Bd ks) (hr : IsRow .u8 w a len cap zs) (hz : ∀ z ∈ zs, 0 ≤ z ∧ z ≤ 255) :
    Calls Tryd.prog 10 #[.agg #[.slice A ks.length c, .bool o, .slice a len cap]] w (SomeAny w) := by
  cases o with
  | true =>
    refine (some_own _ a len cap zs w hr hz ⟨_, _, _, rfl⟩).mono ?_
    rintro e w' ⟨l, A', c', hF, he, hK', b⟩
    exact ⟨l, A', c', few_bd hF, he, hK', b⟩
  | false =>
    refine (some_plain (.slice A ks.length c) (.slice a len cap) w A ks.length c rfl).mono ?_
    rintro e w' ⟨he, b⟩
    exact ⟨ks, A, c, hb, he, hK.below b, b⟩
theorem idx_any {α : Type} (p : α → Bool) (l : List α) : decide (0 ≤ idx p l) = l.any p := by
  unfold idx
  split
  · rename_i i h
    obtain ⟨hi, hp, _⟩ := List.findIdx?_eq_some_iff_getElem.1 h
    have : l.any p = true := List.any_eq_true.2 ⟨l[i], List.getElem_mem _, hp⟩
    rw [this]
    simp
  · rename_i h
    have := List.findIdx?_eq_none_iff.1 h
    have : l.any p = false := by
      rw [List.any_eq_false]
      intro x hx
      simp [this x hx]
    rw [this]
    simp
theorem any_take {α : Type} (p : α → Bool) {l : List α} {i : Nat} (h : i < l.length) : (l.take (i + 1)).any p = ((l.take i).any p || p l[i]) := by
  rw [List.take_succ_eq_append_getElem h, List.any_append]; simp

set_option maxHeartbeats 4000000 in
set_option maxRecDepth 100000 in
theorem finds_walk (A : Option Addr) (c : Nat) (ks : List Kd) (o : Bool) (a : Option Addr) (len cap : Nat) (zs : List Int) (s : ByteArray) (hs : s.size ≤ maxLen)
    (w : World) (hK : Kinds w A c ks) (hb : ∀ k ∈ ks, k.1.length ≤ maxLen ∧ ∀ f ∈ k.2, f.length ≤ maxLen) (hr : IsRow .u8 w a len cap zs) (hz : ∀ z ∈ zs, 0 ≤ z ∧ z ≤ 255) (hT : Tabs w) :
    Calls Tryd.prog 5 #[.agg #[.slice A ks.length c, .bool o, .slice a len cap], .string s] w fun e w' => e = .returned (.bool true) ∧ Below w.heap.size w w' := by
  obtain ⟨sl, rfl⟩ : ∃ sl, s = str sl := ⟨s.data.toList, (str_of s).symm⟩
  have hb' : Bd ks := fun k hk => by have := hb k hk; unfold maxLen at this; exact ⟨by omega, fun f hf => by have := this.2 f hf; omega⟩
  obtain ⟨p, hp⟩ : ∃ p, w.heap.size = p := ⟨_, rfl⟩
  obtain ⟨W, hW⟩ : ∃ W, W = w.alloc (.cells #[.slice A ks.length c, .bool o, .slice a len cap] 25) := ⟨_, rfl⟩
  have bW : Below w.heap.size w W := by rw [hW]; exact (Below.refl _ _).alloc (Nat.le_refl _) _
  have hX : Has W p 25 #[.slice A ks.length c, .bool o, .slice a len cap] := by rw [hW, ← hp]; exact heap_alloc_new w _
  have HW := Lib.hid hW
  have HP := Lib.hid hp
  have HX := Lib.hid hX
  have HK := Lib.hid hK
  have HR := Lib.hid hr
  have HZ := Lib.hid hz
  have HBD := Lib.hid hb'
  clear hW hp hX hK hr hz hb hb'
  go_enter Tryd.func5, Tryd.ntmps5
  go_wp2_with fail
  rw [← HW.out, HP.out]
  refine (examples_any W (hT.below bW)).mono ?_
  rintro e w1 ⟨rfl, bx⟩
  have B1 := bW.trans (bx.mono bW.size)
  obtain ⟨u0, u1, u2⟩ := (HX.out.below bx HX.out.lt).cell3
  go_wp2_with fail
  refine (some_any A c ks o a len cap zs w1 (HK.out.below B1) HBD.out (HR.out.below B1) HZ.out).mono ?_
  rintro e w2 ⟨la, Aa, ca, hbd, rfl, hKa, b2⟩
  clear u0 u1 u2
  have B2 := B1.trans (b2.mono B1.size)
  clear HX HK HR HZ HBD bx b2
  go_wp2_with fail
  refine (right_any la Aa ca w2 hKa (hT.below B2) hbd).mono ?_
  by_cases h0 : rightE la = 0
  · rw [h0]
    rintro e w3 ⟨rfl, b3⟩
    have B3 := B2.trans (b3.mono B2.size)
    have HKa := Lib.hid (hKa.below b3)
    have hcap := hKa.cap
    have hl16 := (right_parts h0).2.1
    have hT3 := hT.below B3
    clear hKa b3
    go_wp2_with fail
    go_loopw [7, 8] (fun t i wr => ∃ j : Nat, j ≤ la.length ∧ i = .int .i64 j ∧ t = .bool ((la.take j).any fun x => x.1 == sl) ∧ Below w3.heap.size w3 wr) (fun _ i _ => la.length - (intOf i).toNat)
    case atStart => exact ⟨0, Nat.zero_le _, rfl, rfl, Below.refl _ _⟩
    case round =>
      rename World => wo
      obtain ⟨j, hj, rfl, rfl, br⟩ := hrel
      by_cases hlt : j < la.length
      · obtain ⟨b, off, rfl, hc⟩ := (HKa.out.below br).shape (by omega)
        obtain ⟨F, d, g0, g1, hst⟩ := hc j hlt
        clear hc
        have e1 := any_take (fun x : Kd => x.1 == sl) hlt
        have HE1 := Lib.hid e1
        have HF := Lib.hid (find_right h0 hlt)
        have HFR := Lib.hid (fun k (hk : k < la[j].2.length) => field_right h0 hlt hk)
        clear e1
        generalize ((la.take j).any fun x => x.1 == sl) = tv at *
        have hst' := hst
        go_upto_region 11 with fail
        go_cut [7] from 25 to 34 (fun v wx => v = .bool (tv || (la[j].1 == sl)) ∧ wx = wo)
        case first =>
          cases tv with
          | true =>
            go_wp2_with fail
            go_meet
            exact ⟨by simp, rfl⟩
          | false =>
            go_wp2_with fail
            go_meet
            exact ⟨by simp [str_toList], rfl⟩
        case rest =>
          obtain ⟨rfl, rfl⟩ := hcut
          go_wp2_with fail
          refine (find_any la _ ca la[j].1 _ (HKa.out.below br)).mono ?_
          rw [HF.out]
          rintro e w4 ⟨rfl, b4⟩
          have B4 := br.trans (b4.mono br.size)
          have nj : ((j : Int) != (j : Int)) = false := by simp
          go_wp2_with fail
          go_loopw [9] (fun i wi => ∃ k : Nat, k ≤ la[j].2.length ∧ i = .int .i64 k ∧ Below w3.heap.size w3 wi) (fun i _ => la[j].2.length - (intOf i).toNat)
          case atStart => exact ⟨0, Nat.zero_le _, rfl, B4⟩
          case round =>
            rename World => wi
            obtain ⟨k, hk, rfl, bi⟩ := hrel
            obtain ⟨b', off', e', hc⟩ := (HKa.out.below bi).shape (by omega)
            cases e'
            obtain ⟨F', d', g0', g1', hst2⟩ := hc j hlt
            clear hc g0 g1 nj
            have hcf := hst2.cap
            by_cases hlk : k < la[j].2.length
            · obtain ⟨fb, foff, rfl, hcc⟩ := hst2.shape (by omega)
              have hck := hcc k hlk
              have HC := Lib.hid hcc
              clear hcc
              have fr := HFR.out k hlk
              have HF1 := Lib.hid fr.1
              have HF2 := Lib.hid fr.2
              have hlf : la[j].2[k].length ≤ 9223372036854775807 := (hbd la[j] (List.getElem_mem _)).2 _ (List.getElem_mem _)
              have nk : ((k : Int) != (k : Int)) = false := by simp
              clear fr
              have HST := Lib.hid hst2
              have C0 : Hid (wi.cell? ⟨b, off + j * 2, none⟩ = some (.string (str la[j].1)) ∧ wi.cell? ⟨b, off + j * 2 + 1, none⟩ = some (.slice (some ⟨fb, foff, none⟩) la[j].2.length d') ∧ wi.cell? ⟨fb, foff + k, none⟩ = some (.string (str la[j].2[k]))) := Lib.hid ⟨g0', g1', hck⟩
              go_wp2_with fail
              clear hst2 hst' hst
              go_region_held3 (fun w' => w'.cell? ⟨b, off + j * 2, none⟩ = some (.string (str la[j].1)) ∧ w'.cell? ⟨b, off + j * 2 + 1, none⟩ = some (.slice (some ⟨fb, foff, none⟩) la[j].2.length d') ∧ w'.cell? ⟨fb, foff + k, none⟩ = some (.string (str la[j].2[k])))
                (first | exact C6.out | exact C5.out | exact C0.out)
                (first
                  | (go_at_call 16; refine (field_any la[j].1 la[j].2 _ d' la[j].2[k] _ (HST.out.below (Below.refl _ _).drew)).mono ?_; rw [HF1.out]; rintro e w5 ⟨rfl, b5'⟩; have b5 : Below wi.heap.size wi w5 := (Below.refl _ wi).drew.trans b5'; have C5 : Hid (w5.cell? ⟨b, off + j * 2, none⟩ = some (.string (str la[j].1)) ∧ w5.cell? ⟨b, off + j * 2 + 1, none⟩ = some (.slice (some ⟨fb, foff, none⟩) la[j].2.length d') ∧ w5.cell? ⟨fb, foff + k, none⟩ = some (.string (str la[j].2[k]))) := Lib.hid ⟨(b5.cell (World.block_lt_of_cell? _ _ C0.out.1)).trans C0.out.1, (b5.cell (World.block_lt_of_cell? _ _ C0.out.2.1)).trans C0.out.2.1, (b5.cell (World.block_lt_of_cell? _ _ C0.out.2.2)).trans C0.out.2.2⟩; have B5 := bi.trans (b5.mono bi.size); clear b5')
                  | (go_at_call 18; refine (isName_any la[j].2[k] _ hlf (hT3.below B5)).mono ?_; rw [HF2.out]; rintro e w6 ⟨rfl, b6⟩; have C6 : Hid (w6.cell? ⟨b, off + j * 2, none⟩ = some (.string (str la[j].1)) ∧ w6.cell? ⟨b, off + j * 2 + 1, none⟩ = some (.slice (some ⟨fb, foff, none⟩) la[j].2.length d') ∧ w6.cell? ⟨fb, foff + k, none⟩ = some (.string (str la[j].2[k]))) := Lib.hid ⟨(b6.cell (World.block_lt_of_cell? _ _ C5.out.1)).trans C5.out.1, (b6.cell (World.block_lt_of_cell? _ _ C5.out.2.1)).trans C5.out.2.1, (b6.cell (World.block_lt_of_cell? _ _ C5.out.2.2)).trans C5.out.2.2⟩; have B6 := B5.trans (b6.mono B5.size)))
              clear C0 C5 C6
              go_wp2_with fail
              go_roundw
              case rel => exact ⟨k + 1, by omega, by go_num, B6⟩
              case measure => simp [intOf]; omega
            · go_wp2_with fail
              go_roundw
              case rel => exact ⟨j + 1, by omega, by go_num, by rw [HE1.out], bi⟩
              case measure => simp [intOf]; omega
      · have e2 : la.take j = la := List.take_of_length_le (by omega)
        rw [e2]
        clear e2
        have HI := Lib.hid (idx_any (fun x : Kd => x.1 == sl) la)
        go_wp2_with fail
        refine (find_any la Aa ca sl wo (HKa.out.below br)).mono ?_
        rintro e w4 ⟨rfl, b4⟩
        have hi := HI.out
        generalize idx (fun x : Kd => x.1 == sl) la = x at *
        generalize (la.any fun x => x.1 == sl) = t at *
        have l16 : decide ((la.length : Int) ≤ 16) = true := by simp; omega
        go_wp2_with fail
        all_goals
          go_ret
          exact ⟨rfl, B3.trans ((br.trans (b4.mono br.size)).mono B3.size)⟩
  · obtain ⟨r, hr2⟩ : ∃ r, rightE la = r := ⟨_, rfl⟩
    have hrn : (r != 0) = true := by rw [← hr2]; simpa using h0
    rw [hr2]
    clear hr2
    rintro e w3 ⟨rfl, b3⟩
    go_wp2_with fail
    go_ret
    exact ⟨rfl, B2.trans (b3.mono B2.size)⟩
end Go.Proofs.YtkoomphkbiifhaaDoor
