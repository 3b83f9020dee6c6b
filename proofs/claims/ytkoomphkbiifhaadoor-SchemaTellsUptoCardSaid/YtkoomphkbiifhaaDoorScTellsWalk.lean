/- SchemaTells: the walk. -/
import Derived.Test.YtkoomphkbiifhaaDoorScFindsWalk
import Derived.Test.YtkoomphkbiifhaaDoorScRefGet
import Derived.Test.YtkoomphkbiifhaaDoorScRefSame
import Derived.Test.YtkoomphkbiifhaaDoorScRefKinds
namespace Go.Proofs.YtkoomphkbiifhaaDoor
open Go.RowKit
set_option linter.unusedVariables false

/-- What a bulk leaves of kinds. -/
def UpK (l : List Kd) : Prop := l.length ≤ 2000000 ∧ (putL l).length ≤ 90000000
def SomeUp (w : World) (e : Ending) (w' : World) : Prop := ∃ (l : List Kd) (A : Option Addr) (c : Nat), Bd l ∧ UpK l ∧ e = .returned (.slice A l.length c) ∧ Kinds w' A c l ∧ Below w.heap.size w w'
theorem some_up (A : Option Addr) (c : Nat) (ks : List Kd) (o : Bool) (a : Option Addr) (len cap : Nat) (zs : List Int) (w : World) (hK : Kinds w A c ks) (hb : Bd ks) (hu : UpK ks) (hr : IsRow .u8 w a len cap zs) (hz : ∀ z ∈ zs, 0 ≤ z ∧ z ≤ 255) :
    Calls Tryd.prog 10 #[.agg #[.slice A ks.length c, .bool o, .slice a len cap]] w (SomeUp w) := by
  cases o with
  | true =>
    refine (some_own _ a len cap zs w hr hz ⟨_, _, _, rfl⟩).mono ?_
    rintro e w' ⟨l, A', c', hF, he, hK', b⟩
    exact ⟨l, A', c', few_bd hF, ⟨by have := hF.1; omega, by have := few_put hF; omega⟩, he, hK', b⟩
  | false =>
    refine (some_plain (.slice A ks.length c) (.slice a len cap) w A ks.length c rfl).mono ?_
    rintro e w' ⟨he, b⟩
    exact ⟨ks, A, c, hb, hu, he, hK.below b, b⟩
theorem post_uni {r : Option (List Kd)} {w w' : World} {e : Ending} (h : GetPost r w e w') : ∃ A c, e = .returned (.tuple #[.slice A (r.getD []).length c, .bool r.isSome]) ∧ Kinds w' A c (r.getD []) ∧ Below w.heap.size w w' := by
  obtain ⟨b, h⟩ := h
  cases r with
  | none => exact ⟨none, 0, h, Kinds.nil _, b⟩
  | some l => obtain ⟨A, c, he, hk⟩ := h; exact ⟨A, c, he, hk, b⟩
theorem got_len (t : Nm) : ((getT t).getD []).length ≤ 16 := by
  cases h : getT t with
  | none => simp
  | some g => exact (right_parts (getL_right _ _ _ _ h)).2.1
theorem kds_self (l : List Kd) : (l == l) = true := beq_self_eq_true l
set_option maxHeartbeats 8000000 in
set_option maxRecDepth 100000 in
theorem tells_walk (s : ByteArray) (k : Int) (A1 : Option Addr) (c1 : Nat) (ks1 : List Kd) (o1 : Bool) (a1 : Option Addr) (len1 cap1 : Nat) (zs1 : List Int) (A2 : Option Addr) (c2 : Nat) (ks2 : List Kd) (o2 : Bool) (a2 : Option Addr) (len2 cap2 : Nat) (zs2 : List Int) (ot : ByteArray)
    (hs : s.size ≤ maxLen) (hk0 : 0 ≤ k) (hk1 : k ≤ 255) (ho : ot.size ≤ 90000000) (hu1 : UpK ks1) (hu2 : UpK ks2)
    (w : World) (hK1 : Kinds w A1 c1 ks1) (hb1 : ∀ k ∈ ks1, k.1.length ≤ maxLen ∧ ∀ f ∈ k.2, f.length ≤ maxLen) (hr1 : IsRow .u8 w a1 len1 cap1 zs1) (hz1 : ∀ z ∈ zs1, 0 ≤ z ∧ z ≤ 255)
    (hK2 : Kinds w A2 c2 ks2) (hb2 : ∀ k ∈ ks2, k.1.length ≤ maxLen ∧ ∀ f ∈ k.2, f.length ≤ maxLen) (hr2 : IsRow .u8 w a2 len2 cap2 zs2) (hz2 : ∀ z ∈ zs2, 0 ≤ z ∧ z ≤ 255) (hT : Tabs w) :
    Calls Tryd.prog 3 #[.string s, .int .u8 k, .agg #[.slice A1 ks1.length c1, .bool o1, .slice a1 len1 cap1], .agg #[.slice A2 ks2.length c2, .bool o2, .slice a2 len2 cap2], .string ot] w fun e w' => e = .returned (.bool true) ∧ Below w.heap.size w w' := by
  obtain ⟨sl0, rfl⟩ : ∃ sl, s = str sl := ⟨s.data.toList, (str_of s).symm⟩
  obtain ⟨ol, rfl⟩ : ∃ sl, ot = str sl := ⟨ot.data.toList, (str_of ot).symm⟩
  have hsl : sl0.length ≤ 9223372036854775807 := by rw [str_size] at hs; unfold maxLen at hs; omega
  have hol : ol.length ≤ 90000000 := by rw [str_size] at ho; exact ho
  have hbd1 : Bd ks1 := fun k hk => by have := hb1 k hk; unfold maxLen at this; exact ⟨by omega, fun f hf => by have := this.2 f hf; omega⟩
  have hbd2 : Bd ks2 := fun k hk => by have := hb2 k hk; unfold maxLen at this; exact ⟨by omega, fun f hf => by have := this.2 f hf; omega⟩
  obtain ⟨p, hp⟩ : ∃ p, w.heap.size = p := ⟨_, rfl⟩
  obtain ⟨W, hW⟩ : ∃ W, W = ((w.alloc (.cells #[.slice A1 ks1.length c1, .bool o1, .slice a1 len1 cap1] 25)).alloc (.cells #[.slice A2 ks2.length c2, .bool o2, .slice a2 len2 cap2] 25)) := ⟨_, rfl⟩
  have bW : Below w.heap.size w W := by rw [hW]; exact ((Below.refl _ _).alloc (Nat.le_refl _) _).alloc (by simp) _
  have hXq : Has W (p + 1) 25 #[.slice A2 ks2.length c2, .bool o2, .slice a2 len2 cap2] := by
    rw [hW, ← hp]
    have := heap_alloc_new (w.alloc (.cells #[.slice A1 ks1.length c1, .bool o1, .slice a1 len1 cap1] 25)) (.cells #[.slice A2 ks2.length c2, .bool o2, .slice a2 len2 cap2] 25)
    simpa [Has] using this
  have hXp : Has W p 25 #[.slice A1 ks1.length c1, .bool o1, .slice a1 len1 cap1] := by
    rw [hW, ← hp]
    refine Has.below (B := w.heap.size + 1) (heap_alloc_new w _) ((Below.refl _ _).alloc (by simp) _) (by omega)
  have HW := Lib.hid hW
  have HP := Lib.hid hp
  have HXp := Lib.hid hXp
  have HXq := Lib.hid hXq
  have HR1 := Lib.hid hr1
  have HR2 := Lib.hid hr2
  have HZ1 := Lib.hid hz1
  have HZ2 := Lib.hid hz2
  have HK1 := Lib.hid hK1
  have HK2 := Lib.hid hK2
  have HB1 := Lib.hid hbd1
  have HB2 := Lib.hid hbd2
  clear hW hp hXp hXq hr1 hr2 hz1 hz2 hK1 hK2 hbd1 hbd2 hb1 hb2 hs ho
  go_enter Tryd.func3, Tryd.ntmps3
  go_wp2_with fail
  rw [← HW.out, HP.out]
  refine (examples_any W (hT.below bW)).mono ?_
  rintro e w1 ⟨rfl, bx⟩
  have B1 := bW.trans (bx.mono bW.size)
  have HXp1 := Lib.hid (HXp.out.below bx HXp.out.lt)
  have HXq1 := Lib.hid (HXq.out.below bx HXq.out.lt)
  clear HXp HXq bx bW
  go_upto_if 27 with fail
  go_cut [0] from 27 to 29 (fun v wx => ∃ sl : Nm, v = .string (str sl) ∧ sl.length ≤ 9223372036854775807 ∧ Has wx p 25 #[.slice A1 ks1.length c1, .bool o1, .slice a1 len1 cap1] ∧ Has wx (p + 1) 25 #[.slice A2 ks2.length c2, .bool o2, .slice a2 len2 cap2] ∧ Below w.heap.size w wx)
  case first =>
    by_cases h150 : k < 150
    · go_wp2_with fail
      refine (name_any k w1 hk0 hk1).mono ?_
      rintro e w2 ⟨nm, hnm, rfl, b2⟩
      go_wp2_with fail
      go_meet
      exact ⟨nm, rfl, by omega, HXp1.out.below b2 HXp1.out.lt, HXq1.out.below b2 HXq1.out.lt, B1.trans (b2.mono B1.size)⟩
    · go_wp2_with fail
      go_meet
      exact ⟨sl0, rfl, hsl, HXp1.out, HXq1.out, B1⟩
  case rest =>
    clear HXp1 HXq1 B1
    rename World => w2
    obtain ⟨sl, rfl, hsl2, hXp, hXq, B2⟩ := hcut
    obtain ⟨u0, u1, u2⟩ := hXp.cell3
    have HXq := Lib.hid hXq
    clear hXp hXq
    go_wp2_with fail
    refine (some_up A1 c1 ks1 o1 a1 len1 cap1 zs1 w2 (HK1.out.below B2) HB1.out hu1 (HR1.out.below B2) HZ1.out).mono ?_
    rintro e w3 ⟨la, Aa, ca, hBa, hUa, rfl, hKa, b3⟩
    clear u0 u1 u2
    have B3 := B2.trans (b3.mono B2.size)
    obtain ⟨v0, v1, v2⟩ := (HXq.out.below b3 HXq.out.lt).cell3
    go_wp2_with fail
    refine (some_up A2 c2 ks2 o2 a2 len2 cap2 zs2 w3 (HK2.out.below B3) HB2.out hu2 (HR2.out.below B3) HZ2.out).mono ?_
    rintro e w4 ⟨lb, Ab, cb, hBb, hUb, rfl, hKb, b4⟩
    clear v0 v1 v2 HXq
    have B4 := B3.trans (b4.mono B3.size)
    have hKa4 := hKa.below b4
    go_wp2_with fail
    refine (refKinds_any la Aa ca w4 hKa4 (by have := hUa.1; omega)).mono ?_
    rintro e w5 ⟨vp, rfl, hRp, b5⟩
    obtain ⟨Ap, cp, rfl, hKp⟩ := hRp.shape
    have B5 := B4.trans (b5.mono B4.size)
    go_wp2_with fail
    refine (refKinds_any lb Ab cb w5 (hKb.below b5) (by have := hUb.1; omega)).mono ?_
    rintro e w6 ⟨vq, rfl, hRq, b6⟩
    obtain ⟨Aq, cq, rfl, hKq⟩ := hRq.shape
    have B6 := B5.trans (b6.mono B5.size)
    go_wp2_with fail
    refine (put_any la Aa ca w6 ((hKa4.below b5).below b6) (by have := hUa.2; omega)).mono ?_
    rintro e w7 ⟨rfl, b7⟩
    have B7 := B6.trans (b7.mono B6.size)
    have HKa := Lib.hid (((hKa4.below b5).below b6).below b7)
    have HKb := Lib.hid (((hKb.below b5).below b6).below b7)
    have HKp := Lib.hid ((hKp.below b6).below b7)
    have HKq := Lib.hid (hKq.below b7)
    have hT7 := hT.below B7
    clear hKa hKb hKa4 hKp hKq hRp hRq b3 b4 b5 b6 b7 B2 B3 B4 B5 B6
    go_upto_if 42 with fail
    go_cut [16] from 42 to 43 (fun v wx => ∃ tl : Nm, v = .string (str tl) ∧ tl.length ≤ 90000000 ∧ wx = w7)
    case first =>
      by_cases h3 : k % 3 = 0
      · go_wp2_with fail
        go_meet
        exact ⟨ol, rfl, hol, rfl⟩
      · have d3 : (k % 3 == 0) = false := by rw [beq_eq_false_iff_ne]; exact h3
        go_wp2_with fail
        go_meet
        exact ⟨putL la, rfl, hUa.2, rfl⟩
    case rest =>
      obtain ⟨tl, rfl, htl, rfl⟩ := hcut
      rename World => w7
      have hgl := got_len tl
      have HRG := Lib.hid (rget_eq tl)
      obtain ⟨go, hgo⟩ : ∃ go, getT tl = go := ⟨_, rfl⟩
      have hg1 := get_any tl w7 (by omega) hT7
      rw [hgo] at hg1 hgl HRG
      obtain ⟨lg, hlg⟩ : ∃ lg, go.getD [] = lg := ⟨_, rfl⟩
      obtain ⟨ok, hok⟩ : ∃ ok, go.isSome = ok := ⟨_, rfl⟩
      rw [hlg] at hgl
      have HLG := Lib.hid hlg
      have HOK := Lib.hid hok
      clear hgo hlg hok
      go_wp2_with fail
      refine hg1.mono fun e w8 h8 => ?_
      obtain ⟨Ag, cg, rfl, hKg, b8⟩ := post_uni h8
      rw [HLG.out] at hKg
      rw [HLG.out, HOK.out]
      clear hg1 h8
      have B8 := B7.trans (b8.mono B7.size)
      go_wp2_with fail
      refine (rget_any tl w8 (by omega)).mono fun e w9 h9 => ?_
      rw [HRG.out] at h9
      obtain ⟨Ar, cr, rfl, hKr, b9⟩ := post_uni h9
      rw [HLG.out] at hKr
      rw [HLG.out, HOK.out]
      clear h9
      have B9 := B8.trans (b9.mono B8.size)
      go_wp2_with fail
      refine (refKinds_any lg Ag cg w9 (hKg.below b9) (by omega)).mono ?_
      rintro e w10 ⟨vg, rfl, hRg, b10⟩
      obtain ⟨Ah, ch, rfl, hKh⟩ := hRg.shape
      have B10 := B9.trans (b10.mono B9.size)
      go_wp2_with fail
      refine (rsame_any lg lg Ah Ar ch cr w10 hKh (hKr.below b10)).mono ?_
      rw [kds_self]
      rintro e w11 ⟨rfl, b11⟩
      have B11 := B10.trans (b11.mono B10.size)
      have K7 : Below w7.heap.size w7 w11 := b8.trans ((b9.mono b8.size).trans ((b10.mono (Nat.le_trans b8.size b9.size)).trans (b11.mono (Nat.le_trans b8.size (Nat.le_trans b9.size b10.size)))))
      have HA := Lib.hid (HKa.out.below K7)
      have HB := Lib.hid (HKb.out.below K7)
      have HPp := Lib.hid (HKp.out.below K7)
      have HQ := Lib.hid (HKq.out.below K7)
      have hcap := HKa.out.cap
      clear HKa HKb HKp HKq hKg hKr hKh hRg b8 b9 b10 b11 B7 B8 B9 B10 K7 HLG HOK HRG
      go_wp2_with fail
      go_loopw [22] (fun i wr => ∃ j : Nat, j ≤ la.length ∧ i = .int .i64 j ∧ Below w11.heap.size w11 wr) (fun i _ => la.length - (intOf i).toNat)
      case atStart => exact ⟨0, Nat.zero_le _, rfl, Below.refl _ _⟩
      case round =>
        rename World => wi
        obtain ⟨j, hj, rfl, bi⟩ := hrel
        by_cases hlt : j < la.length
        · obtain ⟨b, off, rfl, hc⟩ := (HA.out.below bi).shape (by omega)
          obtain ⟨F, d, g0, g1, hst⟩ := hc j hlt
          obtain ⟨b', off', rfl, hc'⟩ := (HPp.out.below bi).shape (by omega)
          obtain ⟨F', d', g0', g1', hst'⟩ := hc' j hlt
          clear hc hc'
          have C0 : Hid (wi.cell? ⟨b, off + j * 2, none⟩ = some (.string (str la[j].1)) ∧ wi.cell? ⟨b, off + j * 2 + 1, none⟩ = some (.slice F la[j].2.length d) ∧ wi.cell? ⟨b', off' + j * 2, none⟩ = some (.string (str la[j].1)) ∧ wi.cell? ⟨b', off' + j * 2 + 1, none⟩ = some (.slice F' la[j].2.length d')) := Lib.hid ⟨g0, g1, g0', g1'⟩
          obtain ⟨x, hx⟩ : ∃ x, idx (fun z => z == sl) la[j].2 = x := ⟨_, rfl⟩
          have HX := Lib.hid hx
          have HST := Lib.hid hst
          have HST' := Lib.hid hst'
          clear hx hst hst'
          have nx : (x != x) = false := by simp
          have nx2 : (x == x) = true := by simp
          go_wp2_with fail
          go_region_held3 (fun w' => w'.cell? ⟨b, off + j * 2, none⟩ = some (.string (str la[j].1)) ∧ w'.cell? ⟨b, off + j * 2 + 1, none⟩ = some (.slice F la[j].2.length d) ∧ w'.cell? ⟨b', off' + j * 2, none⟩ = some (.string (str la[j].1)) ∧ w'.cell? ⟨b', off' + j * 2 + 1, none⟩ = some (.slice F' la[j].2.length d'))
            (first | exact C6.out | exact C5.out | exact C0.out)
            (first
              | (go_at_call 16; refine (field_any la[j].1 la[j].2 _ d sl _ (HST.out.below (Below.refl _ _).drew)).mono ?_; rw [HX.out]; rintro e w5 ⟨rfl, b5'⟩; have b5 : Below wi.heap.size wi w5 := (Below.refl _ wi).drew.trans b5'; have C5 : Hid (w5.cell? ⟨b, off + j * 2, none⟩ = some (.string (str la[j].1)) ∧ w5.cell? ⟨b, off + j * 2 + 1, none⟩ = some (.slice F la[j].2.length d) ∧ w5.cell? ⟨b', off' + j * 2, none⟩ = some (.string (str la[j].1)) ∧ w5.cell? ⟨b', off' + j * 2 + 1, none⟩ = some (.slice F' la[j].2.length d')) := Lib.hid ⟨(b5.cell (World.block_lt_of_cell? _ _ C0.out.1)).trans C0.out.1, (b5.cell (World.block_lt_of_cell? _ _ C0.out.2.1)).trans C0.out.2.1, (b5.cell (World.block_lt_of_cell? _ _ C0.out.2.2.1)).trans C0.out.2.2.1, (b5.cell (World.block_lt_of_cell? _ _ C0.out.2.2.2)).trans C0.out.2.2.2⟩; clear b5')
              | (go_at_call 17; refine (rfield_any la[j].1 la[j].2 _ d' sl _ (HST'.out.below b5)).mono ?_; rw [HX.out]; rintro e w6 ⟨rfl, b6⟩; have C6 : Hid (w6.cell? ⟨b, off + j * 2, none⟩ = some (.string (str la[j].1)) ∧ w6.cell? ⟨b, off + j * 2 + 1, none⟩ = some (.slice F la[j].2.length d) ∧ w6.cell? ⟨b', off' + j * 2, none⟩ = some (.string (str la[j].1)) ∧ w6.cell? ⟨b', off' + j * 2 + 1, none⟩ = some (.slice F' la[j].2.length d')) := Lib.hid ⟨(b6.cell (World.block_lt_of_cell? _ _ C5.out.1)).trans C5.out.1, (b6.cell (World.block_lt_of_cell? _ _ C5.out.2.1)).trans C5.out.2.1, (b6.cell (World.block_lt_of_cell? _ _ C5.out.2.2.1)).trans C5.out.2.2.1, (b6.cell (World.block_lt_of_cell? _ _ C5.out.2.2.2)).trans C5.out.2.2.2⟩; have B6 := bi.trans ((b5.trans (b6.mono b5.size)).mono bi.size)))
          clear C0 C5 C6
          go_wp2_with fail
          go_roundw
          case rel => exact ⟨j + 1, by omega, by go_num, B6⟩
          case measure => simp [intOf]; omega
        · have Bi := B11.trans (bi.mono B11.size)
          have hTi := hT.below Bi
          have hA := HA.out.below bi
          have hB := HB.out.below bi
          have hP := HPp.out.below bi
          have hQ := HQ.out.below bi
          have HPL := Lib.hid (show (putL la).length ≤ 140737488355328 by have := hUa.2; omega)
          go_wp2_with fail
          refine (isName_any sl wi hsl2 hTi).mono ?_
          obtain ⟨nb, hnb⟩ : ∃ nb, nameB sl = nb := ⟨_, rfl⟩
          rw [hnb]
          rintro e y1 ⟨rfl, q1⟩
          go_wp2_with fail
          refine (rname_any sl y1 hsl2).mono ?_
          rw [hnb]
          rintro e y1' ⟨rfl, rfl⟩
          clear hnb
          have n1 : (nb == nb) = true := by simp
          go_wp2_with fail
          refine (right_any la Aa ca y1 (hA.below q1) (hTi.below q1) hBa).mono ?_
          obtain ⟨rr, hrr⟩ : ∃ rr, rightE la = rr := ⟨_, rfl⟩
          rw [hrr]
          rintro e y2 ⟨rfl, q2⟩
          have Q2 := q1.trans (q2.mono q1.size)
          go_wp2_with fail
          refine (rright_any la Ap cp y2 (hP.below Q2) hBa).mono ?_
          rw [hrr]
          rintro e y3 ⟨rfl, q3⟩
          clear hrr
          have Q3 := Q2.trans (q3.mono Q2.size)
          have n2 : (rr == rr) = true := by simp
          go_wp2_with fail
          refine (find_any la Aa ca sl y3 (hA.below Q3)).mono ?_
          obtain ⟨ff, hff⟩ : ∃ ff, idx (fun x : Kd => x.1 == sl) la = ff := ⟨_, rfl⟩
          rw [hff]
          rintro e y4 ⟨rfl, q4⟩
          have Q4 := Q3.trans (q4.mono Q3.size)
          go_wp2_with fail
          refine (rfind_any la Ap cp sl y4 (hP.below Q4)).mono ?_
          rw [hff]
          rintro e y4' ⟨rfl, rfl⟩
          clear hff
          have n3 : (ff == ff) = true := by simp
          go_wp2_with fail
          refine (put_any la Aa ca y4 (hA.below Q4) HPL.out).mono ?_
          obtain ⟨pl, hpl⟩ : ∃ pl, putL la = pl := ⟨_, rfl⟩
          rw [hpl]
          rintro e y5 ⟨rfl, q5⟩
          have Q5 := Q4.trans (q5.mono Q4.size)
          go_wp2_with fail
          refine (rput_any la Ap cp y5 (hP.below Q5) HPL.out).mono ?_
          rw [hpl]
          rintro e y5' ⟨rfl, rfl⟩
          clear hpl
          go_wp2_with fail
          refine (sames_any la lb Aa Ab ca cb y5 (hA.below Q5) (hB.below Q5)).mono ?_
          obtain ⟨sm, hsm⟩ : ∃ sm, (la == lb) = sm := ⟨_, rfl⟩
          rw [hsm]
          rintro e y6 ⟨rfl, q6⟩
          have Q6 := Q5.trans (q6.mono Q5.size)
          go_wp2_with fail
          refine (rsame_any la lb Ap Aq cp cq y6 (hP.below Q6) (hQ.below Q6)).mono ?_
          rw [hsm]
          rintro e y7 ⟨rfl, q7⟩
          clear hsm
          have Q7 := Q6.trans (q7.mono Q6.size)
          have n4 : (sm == sm) = true := by simp
          have n5 : (ok == ok) = true := by simp
          go_wp2_with fail
          go_ret
          exact ⟨rfl, Bi.trans (Q7.mono Bi.size)⟩
end Go.Proofs.YtkoomphkbiifhaaDoor
