/- The reference's Digits, Index, Has, Keywords, symbols. -/
import Derived.Test.YtdnolbbkphgfiaaDoorTok
import Derived.Lib.ItoaLen
namespace Go.Proofs.YtdnolbbkphgfiaaDoor
open Go.RowKit

theorem itoa_small {n : Int} (h : 0 ≤ n ∧ n < 10) : Lib.itoa n = [UInt8.ofNat (48 + n.toNat)] := by
  unfold Lib.itoa
  rw [if_neg (by omega), Lib.decDigits_one (by omega)]
theorem itoa_big {n : Int} (h : 10 ≤ n) : Lib.itoa n = Lib.itoa (n / 10) ++ Lib.itoa (n % 10) := by
  have h1 : ¬ n.toNat < 10 := by omega
  rw [itoa_small (n := n % 10) (by omega)]
  unfold Lib.itoa
  rw [if_neg (by omega), if_neg (by omega)]
  conv => lhs; rw [Lib.decDigits, dif_neg h1]
  rw [show n.toNat / 10 = (n / 10).toNat from by omega, show n.toNat % 10 = (n % 10).toNat from by omega]
theorem itoa_neg1 {n : Int} (h : -10 < n ∧ n < 0) : Lib.itoa n = 45 :: Lib.itoa (-n) := by
  unfold Lib.itoa
  rw [if_pos h.2, if_neg (by omega), show n.natAbs = (-n).toNat from by omega]
theorem itoa_neg2 {n : Int} (h : n ≤ -10) : Lib.itoa n = Lib.itoa (n.tdiv 10) ++ Lib.itoa (-(n.tmod 10)) := by
  have hd : n.tdiv 10 = -((-n) / 10) := by
    rw [← Int.tdiv_eq_ediv_of_nonneg (by omega : 0 ≤ -n), Int.neg_tdiv, Int.neg_neg]
  have hm : n.tmod 10 = -((-n) % 10) := by
    rw [← Int.tmod_eq_emod_of_nonneg (by omega : 0 ≤ -n), Int.neg_tmod, Int.neg_neg]
  rw [hd, hm, Int.neg_neg, itoa_small (n := (-n) % 10) (by omega)]
  unfold Lib.itoa
  rw [if_pos (by omega), if_pos (by omega)]
  have h1 : ¬ n.natAbs < 10 := by omega
  conv => lhs; rw [Lib.decDigits, dif_neg h1]
  rw [show n.natAbs / 10 = (-(-n / 10)).natAbs from by omega, show n.natAbs % 10 = (-n % 10).toNat from by omega]
  rfl
theorem conv_digit (n : Int) (h : 0 ≤ n ∧ n < 10) (w : World) : (convert 21 9 (.int .i32 (48 + n))).run Tryd.prog w = .ok (.string (strB (Lib.itoa n))) w := by
  rw [itoa_small h]
  have : n = 0 ∨ n = 1 ∨ n = 2 ∨ n = 3 ∨ n = 4 ∨ n = 5 ∨ n = 6 ∨ n = 7 ∨ n = 8 ∨ n = 9 := by omega
  rcases this with rfl | rfl | rfl | rfl | rfl | rfl | rfl | rfl | rfl | rfl <;> (clear h; show _ = _; kernel_rfl)
theorem ret_str {a b : ByteArray} (h : a.data.toList = b.data.toList) : Ending.returned (.string a) = .returned (.string b) := by rw [Go.WideShapes.bytes_inj h]

theorem itoa_sz (n : Int) (h : -9223372036854775808 ≤ n ∧ n ≤ 9223372036854775807) : (strB (Lib.itoa n)).size ≤ 21 := by
  rw [← len_data, data_strB]; exact Lib.itoa_length_le n h.1 h.2
theorem cat_data (a b : ByteArray) : (a ++ b).data.toList = a.data.toList ++ b.data.toList := by
  rw [ByteArray.data_append, Array.toList_append]

set_option maxRecDepth 100000 in
set_option maxHeartbeats 400000 in
theorem rDigits_small (n : Int) (w : World) (h : 0 ≤ n ∧ n < 10) : Calls Tryd.prog 25 #[.int .i64 n] w fun e w' => e = .returned (.string (strB (Lib.itoa n))) ∧ w = w' := by
  have hc := conv_digit n h
  obtain ⟨h1, h2⟩ := h
  go_enter Tryd.func25, Tryd.ntmps25
  go_wp2_with fail
  go_ret
  exact ⟨rfl, rfl⟩

set_option maxRecDepth 100000 in
set_option maxHeartbeats 1000000 in
theorem rDigits_any : ∀ (k : Nat) (n : Int) (w : World), n.natAbs < k → -9223372036854775808 ≤ n ∧ n ≤ 9223372036854775807 →
    Calls Tryd.prog 25 #[.int .i64 n] w fun e w' => e = .returned (.string (strB (Lib.itoa n))) ∧ w = w' := by
  intro k
  induction k with
  | zero => intro n w h; omega
  | succ k ih =>
    intro n w hk hb
    by_cases hneg : n < 0
    · by_cases h10 : -10 < n
      · have IH := Lib.hid (rDigits_small (-n) w (by omega))
        have HR := Lib.hid (itoa_neg1 ⟨h10, hneg⟩)
        have hs := itoa_sz (-n) (by omega)
        obtain ⟨t, ht⟩ : ∃ t, t = strB (Lib.itoa (-n)) := ⟨_, rfl⟩
        rw [← ht] at IH hs
        have HT := Lib.hid ht
        clear ih ht
        obtain ⟨hb1, hb2⟩ := hb
        go_enter Tryd.func25, Tryd.ntmps25
        go_wp2_with (go_at_call 25; refine (Calls.mono IH.out ?_); rintro e w' ⟨rfl, rfl⟩)
        go_ret
        exact ⟨ret_str (by rw [cat_data, HT.out, data_strB, data_strB, HR.out]; rfl), rfl⟩
      · have hd : n.tdiv 10 = -((-n) / 10) := by
          rw [← Int.tdiv_eq_ediv_of_nonneg (by omega : 0 ≤ -n), Int.neg_tdiv, Int.neg_neg]
        have hm : n.tmod 10 = -((-n) % 10) := by
          rw [← Int.tmod_eq_emod_of_nonneg (by omega : 0 ≤ -n), Int.neg_tmod, Int.neg_neg]
        have IH1 := Lib.hid (ih (n.tdiv 10) w (by omega) (by omega))
        have IH2 := Lib.hid (rDigits_small (-(n.tmod 10)) w (by omega))
        have HR := Lib.hid (itoa_neg2 (n := n) (by omega))
        have hs1 := itoa_sz (n.tdiv 10) (by omega)
        have hs2 := itoa_sz (-(n.tmod 10)) (by omega)
        have hdb : -9223372036854775808 ≤ n.tdiv 10 ∧ n.tdiv 10 ≤ 0 := by omega
        have hmb : -9 ≤ n.tmod 10 ∧ n.tmod 10 ≤ 0 := by omega
        have wd : wrap64 (n.tdiv 10) = n.tdiv 10 := IntWalk.wrap64_in _ (by omega)
        have wm : wrap64 (-(n.tmod 10)) = -(n.tmod 10) := IntWalk.wrap64_in _ (by omega)
        obtain ⟨t1, ht1⟩ : ∃ t, t = strB (Lib.itoa (n.tdiv 10)) := ⟨_, rfl⟩
        obtain ⟨t2, ht2⟩ : ∃ t, t = strB (Lib.itoa (-(n.tmod 10))) := ⟨_, rfl⟩
        rw [← ht1] at IH1 hs1
        rw [← ht2] at IH2 hs2
        have HT1 := Lib.hid ht1
        have HT2 := Lib.hid ht2
        clear ih ht1 ht2 hd hm
        obtain ⟨hb1, hb2⟩ := hb
        obtain ⟨hdb1, hdb2⟩ := hdb
        obtain ⟨hmb1, hmb2⟩ := hmb
        go_enter Tryd.func25, Tryd.ntmps25
        go_wp2_with fail
        refine (Calls.mono IH1.out ?_); rintro e w' ⟨rfl, rfl⟩
        go_wp2_with fail
        refine (Calls.mono IH2.out ?_); rintro e w' ⟨rfl, rfl⟩
        go_wp2_with fail
        go_ret
        exact ⟨ret_str (by rw [cat_data, HT1.out, HT2.out, data_strB, data_strB, data_strB, HR.out]), rfl⟩
    · by_cases h10 : n < 10
      · exact rDigits_small n w ⟨by omega, h10⟩
      · have IH1 := Lib.hid (ih (n / 10) w (by omega) (by omega))
        have IH2 := Lib.hid (rDigits_small (n % 10) w (by omega))
        have HR := Lib.hid (itoa_big (n := n) (by omega))
        have hs1 := itoa_sz (n / 10) (by omega)
        have hs2 := itoa_sz (n % 10) (by omega)
        obtain ⟨t1, ht1⟩ : ∃ t, t = strB (Lib.itoa (n / 10)) := ⟨_, rfl⟩
        obtain ⟨t2, ht2⟩ : ∃ t, t = strB (Lib.itoa (n % 10)) := ⟨_, rfl⟩
        rw [← ht1] at IH1 hs1
        rw [← ht2] at IH2 hs2
        have HT1 := Lib.hid ht1
        have HT2 := Lib.hid ht2
        clear ih ht1 ht2
        obtain ⟨hb1, hb2⟩ := hb
        go_enter Tryd.func25, Tryd.ntmps25
        go_wp2_with fail
        refine (Calls.mono IH1.out ?_); rintro e w' ⟨rfl, rfl⟩
        go_wp2_with fail
        refine (Calls.mono IH2.out ?_); rintro e w' ⟨rfl, rfl⟩
        go_wp2_with fail
        go_ret
        exact ⟨ret_str (by rw [cat_data, HT1.out, HT2.out, data_strB, data_strB, data_strB, HR.out]), rfl⟩

/-- a list of strings lies in memory -/
def StrsAt (w : World) (A : Option Addr) (L : List (List UInt8)) : Prop :=
  ∃ b off, A = some ⟨b, off, none⟩ ∧ b < w.heap.size ∧ ∀ (j : Nat) (l : List UInt8), L[j]? = some l → w.cell? ⟨b, off + j, none⟩ = some (.string (strB l))
theorem StrsAt.below {w w' : World} {A : Option Addr} {L : List (List UInt8)} (h : StrsAt w A L) (hb : Below w.heap.size w w') : StrsAt w' A L := by
  obtain ⟨b, off, e, hlt, hc⟩ := h
  exact ⟨b, off, e, Nat.lt_of_lt_of_le hlt hb.size, fun j l hj => (hb.cell (p := ⟨b, _, none⟩) hlt).trans (hc j l hj)⟩
theorem strs_lit (W : World) (L : List (List UInt8)) (t : TypeId) : StrsAt (W.alloc (.cells (L.map fun l => Value.string (strB l)).toArray t)) (some ⟨W.heap.size, 0, none⟩) L := by
  refine ⟨W.heap.size, 0, rfl, by simp, fun j x hj => ?_⟩
  have hb := heap_alloc_new W (.cells (L.map fun l => Value.string (strB l)).toArray t)
  rw [cell_of_row _ _ _ _ t (0, 0) hb, Nat.zero_add]
  simp [hj]

def IdxPost (L : List (List UInt8)) (s : ByteArray) (e : Ending) : Prop := ∃ r : Int, e = .returned (.int .i64 r) ∧ decide (0 ≤ r) = L.contains s.data.toList

set_option maxRecDepth 100000 in
set_option maxHeartbeats 1000000 in
theorem Index_any (A : Option Addr) (c : Nat) (L : List (List UInt8)) (s : ByteArray) (w : World) (hL : StrsAt w A L) (hlen : L.length ≤ 1000) :
    Calls Tryd.prog 50 #[.slice A L.length c, .string s] w fun e w' => IdxPost L s e ∧ w = w' := by
  obtain ⟨b, off, rfl, hlt, hc⟩ := hL
  have HC := Lib.hid hc
  clear hc
  go_enter Tryd.func50, Tryd.ntmps50
  go_wp2_with fail
  go_loop [5] (fun i => ∃ k : Nat, k ≤ L.length ∧ i = .int .i64 (k : Int) ∧ Hid (∀ (j : Nat) (h : j < L.length), j < k → L[j] ≠ s.data.toList)) (fun i => L.length - (intOf i).toNat)
  case atStart => exact ⟨0, by omega, rfl, fun j h h2 => by omega⟩
  case round =>
    obtain ⟨k, hk, rfl, HA⟩ := hrel
    by_cases hkl : k < L.length
    · have hcell := HC.out k L[k] (List.getElem?_eq_getElem hkl)
      obtain ⟨x, hx⟩ : ∃ x, x = L[k] := ⟨_, rfl⟩
      rw [← hx] at hcell
      by_cases he : x = s.data.toList
      · have hb : ((strB x).toList == s.toList) = true := by rw [ByteArray.toList_eq, ByteArray.toList_eq, data_strB, he]; simp
        have HR : Hid (decide ((0 : Int) ≤ (k : Int)) = L.contains s.data.toList) := by
          show _ = _
          rw [decide_eq_true (by omega), eq_comm, List.contains_iff_mem, ← he, hx]
          exact List.getElem_mem hkl
        clear he hx HA
        go_wp2_with fail
        go_ret
        exact ⟨⟨_, rfl, HR.out⟩, rfl⟩
      · have hb : ((strB x).toList == s.toList) = false := by rw [ByteArray.toList_eq, ByteArray.toList_eq, data_strB]; simpa using he
        have HA2 : Hid (∀ (j : Nat) (h : j < L.length), j < k + 1 → L[j] ≠ s.data.toList) := fun j h hj => by
          by_cases e : j = k
          · subst e; rw [← hx]; exact he
          · exact HA.out j h (by omega)
        clear he hx HA
        go_wp2_with fail
        go_round
        case rel => exact ⟨k + 1, by omega, by go_num, HA2⟩
        case measure => simp [intOf]; omega
    · have HR : Hid (decide ((0 : Int) ≤ -1) = L.contains s.data.toList) := by
        show _ = _
        rw [decide_eq_false (by omega), eq_comm, Bool.eq_false_iff, ne_eq, List.contains_iff_mem]
        intro hm
        obtain ⟨j, hj, e⟩ := List.getElem_of_mem hm
        exact HA.out j hj (by omega) e
      clear HA
      go_wp2_with fail
      go_ret
      exact ⟨⟨_, rfl, HR.out⟩, rfl⟩

set_option maxHeartbeats 400000 in
theorem Has_any (A : Option Addr) (c : Nat) (L : List (List UInt8)) (s : ByteArray) (w : World) (hL : StrsAt w A L) (hlen : L.length ≤ 1000) :
    Calls Tryd.prog 31 #[.slice A L.length c, .string s] w fun e w' => e = .returned (.bool (L.contains s.data.toList)) ∧ w = w' := by
  have HI := Lib.hid (Index_any A c L s w hL hlen)
  clear hL
  go_enter Tryd.func31, Tryd.ntmps31
  go_wp2_with (go_at_call 50; refine (Calls.mono HI.out ?_); rintro e w' ⟨⟨r, rfl, hr⟩, rfl⟩; have HR := Lib.hid hr; clear hr)
  go_ret
  exact ⟨ret_bool HR.out, rfl⟩

def symList2 : List (List UInt8) := [[61, 61], [45, 62], [40], [41], [123], [125], [91], [93], [44], [59], [46], [58], [61], [60], [62], [124], [64], [43], [45], [42]]
theorem sym2 (l : List UInt8) : symList2.contains l = isSym l := by
  unfold isSym
  rw [Bool.eq_iff_iff, List.contains_iff_mem, List.contains_iff_mem]
  have h1 : symList2.all (fun k => symList.contains k) = true := by decide
  have h2 : symList.all (fun k => symList2.contains k) = true := by decide
  exact ⟨fun h => List.contains_iff_mem.1 (List.all_eq_true.1 h1 l h), fun h => List.contains_iff_mem.1 (List.all_eq_true.1 h2 l h)⟩

set_option maxRecDepth 100000 in
set_option maxHeartbeats 1000000 in
theorem Keywords_any (w : World) : Calls Tryd.prog 32 #[] w fun e w' => ∃ A c, e = .returned (.slice A 25 c) ∧ StrsAt w' A kwList ∧ Below w.heap.size w w' := by
  have H := Lib.hid (strs_lit w kwList 9)
  go_enter Tryd.func32, Tryd.ntmps32
  go_wp2
  go_ret
  exact ⟨_, _, rfl, H.out, (Below.refl _ _).alloc (Nat.le_refl _) _⟩
set_option maxRecDepth 100000 in
set_option maxHeartbeats 1000000 in
theorem symbols_any (w : World) : Calls Tryd.prog 58 #[] w fun e w' => ∃ A c, e = .returned (.slice A 20 c) ∧ StrsAt w' A symList2 ∧ Below w.heap.size w w' := by
  have H := Lib.hid (strs_lit w symList2 9)
  go_enter Tryd.func58, Tryd.ntmps58
  go_wp2
  go_ret
  exact ⟨_, _, rfl, H.out, (Below.refl _ _).alloc (Nat.le_refl _) _⟩
end Go.Proofs.YtdnolbbkphgfiaaDoor
