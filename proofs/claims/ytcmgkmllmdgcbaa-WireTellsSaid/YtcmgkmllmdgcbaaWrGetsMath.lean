/- Bytes that are got are put as they were; with one more, or one less, they are none. -/
import Derived.Test.YtcmgkmllmdgcbaaWrBackMath
namespace Go.Proofs.Ytcmgkmllmdgcbaa
open Go.RowKit
set_option linter.unusedVariables false

theorem u64n_wrap {N : Nat} (h : N < 18446744073709551616) : u64n (wrap64 (N : Nat)) = N := by unfold u64n wrap64; omega
theorem put_int (u : List UInt8) (i : Nat) (h : i + 8 ≤ u.length) : put 8 (u64n (intAt u i)) = (u.drop i).take 8 := by
  have hl : ((u.drop i).take 8).length = 8 := by simp; omega
  have hn := num_lt ((u.drop i).take 8)
  rw [hl] at hn
  unfold intAt
  rw [u64n_wrap (by omega)]
  have := put_num ((u.drop i).take 8)
  rwa [hl] at this
theorem vs_range (u : List UInt8) : ∀ n, 10 + 8 * n ≤ u.length → vs ((List.range n).map fun i => intAt u (10 + 8 * i)) = (u.drop 10).take (8 * n)
  | 0, _ => by simp [vs]
  | n + 1, h => by
    rw [List.range_succ, List.map_append, vs_append, vs_range u n (by omega), List.map_cons, List.map_nil]
    have e : vs [intAt u (10 + 8 * n)] = (u.drop (10 + 8 * n)).take 8 := by
      show put 8 _ ++ vs [] = _
      rw [put_int u _ (by omega)]
      simp [vs]
    rw [e, show 8 * (n + 1) = 8 * n + 8 by omega, List.take_add, List.drop_drop]
theorem gok_parts {u : List UInt8} (h : gok u = true) : byteAt u 1 ≤ 8 ∧ u.length = 10 + 8 * byteAt u 1 := by
  unfold gok at h
  have := of_decide_eq_true h
  exact ⟨this.2.1, this.2.2⟩
theorem put_one (u : List UInt8) (i : Nat) (h : i < u.length) : put 1 (byteAt u i) = (u.drop i).take 1 := by
  have hl : ((u.drop i).take 1).length = 1 := by simp; omega
  have := put_num ((u.drop i).take 1)
  rw [hl, num_one h] at this
  exact this
/-- What is got is put as it was. -/
theorem put_got {u : List UInt8} (h : gok u = true) : wput (gK u) (gT u) (gV u) = u := by
  obtain ⟨h8, hl⟩ := gok_parts h
  have hb := byteAt_lt u 0
  have hv : (gV u).length = byteAt u 1 := by rw [gV, if_pos h, gvs_length]
  have hk : gK u = (byteAt u 0 : Nat) := by rw [gK, if_pos h]
  have ht : gT u = intAt u 2 := by rw [gT, if_pos h]
  rw [hk, ht, wput_yes (wok_yes hb (by rw [hv]; exact h8)), hd, hv]
  rw [show vs (gV u) = (u.drop 10).take (8 * byteAt u 1) by rw [gV, if_pos h]; exact vs_range u _ (by omega)]
  rw [put_one u 0 (by omega), put_one u 1 (by omega), put_int u 2 (by omega)]
  rw [List.append_assoc, List.append_assoc, show (u.drop 10).take (8 * byteAt u 1) = u.drop 10 from List.take_of_length_le (by simp; omega)]
  have e3 : (u.drop 2).take 8 ++ u.drop 10 = u.drop 2 := by
    have := List.take_append_drop 8 (u.drop 2)
    rwa [List.drop_drop] at this
  have e2 : (u.drop 1).take 1 ++ u.drop 2 = u.drop 1 := by
    have := List.take_append_drop 1 (u.drop 1)
    rwa [List.drop_drop] at this
  have e1 : (u.drop 0).take 1 ++ u.drop 1 = u := by
    have := List.take_append_drop 1 (u.drop 0)
    rwa [List.drop_drop, List.drop_zero] at this
  rw [e3, e2, e1]
theorem got_wok {u : List UInt8} (h : gok u = true) : wok (gK u) (gV u) = true := by
  obtain ⟨h8, hl⟩ := gok_parts h
  have hb := byteAt_lt u 0
  rw [show gK u = (byteAt u 0 : Nat) by rw [gK, if_pos h]]
  exact wok_yes hb (by rw [gV, if_pos h, gvs_length]; exact h8)
theorem byteAt_left {u v : List UInt8} {i : Nat} (h : i < u.length) : byteAt (u ++ v) i = byteAt u i := by
  unfold byteAt; rw [List.getD_eq_getElem?_getD, List.getD_eq_getElem?_getD, List.getElem?_append_left h]
theorem byteAt_take {u : List UInt8} {i n : Nat} (h : i < n) : byteAt (u.take n) i = byteAt u i := by
  unfold byteAt; rw [List.getD_eq_getElem?_getD, List.getD_eq_getElem?_getD, List.getElem?_take, if_pos h]
theorem gok_more {u : List UInt8} (h : gok u = true) (b : UInt8) : gok (u ++ [b]) = false := by
  obtain ⟨h8, hl⟩ := gok_parts h
  refine gok_no (.inr (.inr ?_))
  rw [byteAt_left (by omega), List.length_append]
  simp
  omega
theorem gok_less {u : List UInt8} (h : gok u = true) : gok (u.take (u.length - 1)) = false := by
  obtain ⟨h8, hl⟩ := gok_parts h
  refine gok_no (.inr (.inr ?_))
  rw [byteAt_take (by omega), List.length_take]
  omega
/-- A row of bytes with how many numbers there are at its place. -/
theorem gok_made {t : List UInt8} {n : Nat} (h8 : n ≤ 8) (hl : t.length = 10 + 8 * n) : gok (t.set 1 (UInt8.ofNat n)) = true := by
  have hb : byteAt (t.set 1 (UInt8.ofNat n)) 1 = n := by
    unfold byteAt
    rw [List.getD_eq_getElem?_getD, List.getElem?_set_self (by omega)]
    exact ofNat_toNat (by omega)
  exact gok_yes (by rw [hb]; exact h8) (by rw [hb, List.length_set]; exact hl)
end Go.Proofs.Ytcmgkmllmdgcbaa
