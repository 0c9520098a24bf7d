/- Where, of the program and of the reference. -/
import Derived.Test.YtdnolbbkphgfiaaDoorTok
namespace Go.Proofs.YtdnolbbkphgfiaaDoor
open Go.RowKit

/-- the line and the column behind bytes -/
def plc (l : List UInt8) : Int × Int := l.foldl (fun x c => if c = 10 then (x.1 + 1, 1) else (x.1, x.2 + 1)) (1, 1)
theorem plc_snoc (l : List UInt8) (c : UInt8) : plc (l ++ [c]) = if c = 10 then ((plc l).1 + 1, 1) else ((plc l).1, (plc l).2 + 1) := by
  unfold plc; rw [List.foldl_append]; rfl
theorem take_snoc (s : ByteArray) (k : Nat) (h : k < s.size) : s.data.toList.take (k + 1) = s.data.toList.take k ++ [s[k]] := by
  rw [List.take_succ_eq_append_getElem (by rw [len_data]; exact h)]; rfl
theorem plc_line (s : ByteArray) : ∀ k, k ≤ s.size → (plc (s.data.toList.take k)).1 = 1 + ((Lib.countByte (s.data.toList.take k) 10 : Nat) : Int)
  | 0, _ => by simp [plc, Lib.countByte]
  | k + 1, h => by
    rw [take_snoc s k (by omega), plc_snoc]
    have ih := plc_line s k (by omega)
    unfold Lib.countByte at ih ⊢
    rw [List.count_append]
    split
    · rename_i e; rw [e]; simp only [ih]; simp; omega
    · rename_i e; simp only [ih]; simp [e]
theorem plc_col (s : ByteArray) : ∀ k, k ≤ s.size → (plc (s.data.toList.take k)).2 = (k : Int) - Lib.lastIdx s 10 k
  | 0, _ => by simp [plc, Lib.lastIdx]
  | k + 1, h => by
    rw [take_snoc s k (by omega), plc_snoc]
    have ih := plc_col s k (by omega)
    unfold Lib.lastIdx
    have e : s.data[k]! = s[k]'(by omega) := by
      rw [getElem!_pos s.data k (by show k < s.size; omega)]; rfl
    rw [e]
    by_cases hc : s[k]'(by omega) = 10
    · rw [if_pos hc, if_pos (by rw [hc]; rfl)]; simp; omega
    · rw [if_neg hc, if_neg (show ¬ (((s[k]'(by omega)).toNat : Int) = 10) from fun h2 => hc ((u8_eq _ 10).2 h2))]; simp only [ih]; omega

def WhereRes (s : ByteArray) (p : Int) : Ending :=
  if p < 0 ∨ (s.size : Int) < p then .returned (.tuple #[.int .i64 0, .int .i64 0, .int .i64 1]) else .returned (.tuple #[.int .i64 (plc (s.data.toList.take p.toNat)).1, .int .i64 (plc (s.data.toList.take p.toNat)).2, .int .i64 0])
theorem ret3 {a b c a' b' c' : Int} (h1 : a = a') (h2 : b = b') (h3 : c = c') : Ending.returned (.tuple #[.int .i64 a, .int .i64 b, .int .i64 c]) = .returned (.tuple #[.int .i64 a', .int .i64 b', .int .i64 c']) := by rw [h1, h2, h3]
theorem WhereRes_bad {s : ByteArray} {p : Int} (h : p < 0 ∨ (s.size : Int) < p) : Ending.returned (.tuple #[.int .i64 0, .int .i64 0, .int .i64 1]) = WhereRes s p := by unfold WhereRes; rw [if_pos h]
theorem WhereRes_ok {s : ByteArray} {k : Nat} (h : k ≤ s.size) {a b : Int} (h1 : a = (plc (s.data.toList.take k)).1) (h2 : b = (plc (s.data.toList.take k)).2) : Ending.returned (.tuple #[.int .i64 a, .int .i64 b, .int .i64 0]) = WhereRes s (k : Int) := by
  unfold WhereRes; rw [if_neg (by omega), Int.toNat_natCast, h1, h2]

set_option maxHeartbeats 400000 in
theorem Where_any (s : ByteArray) (p : Int) (w : World) (hs : s.size ≤ 281474976710656) (hp : -9223372036854775808 ≤ p ∧ p ≤ 9223372036854775807) :
    Calls Tryd.prog 20 #[.string s, .int .i64 p] w fun e w' => e = WhereRes s p ∧ w = w' := by
  by_cases h0 : p < 0
  · go_enter Tryd.func20, Tryd.ntmps20
    go_wp2_with fail
    go_ret3
    exact ⟨WhereRes_bad (.inl h0), rfl⟩
  · by_cases h1 : (s.size : Int) < p
    · go_enter Tryd.func20, Tryd.ntmps20
      go_wp2_with fail
      go_ret3
      exact ⟨WhereRes_bad (.inr h1), rfl⟩
    · obtain ⟨k, rfl⟩ := Int.eq_ofNat_of_zero_le (show 0 ≤ p by omega)
      have hk : k ≤ s.size := by omega
      have htl : (s.extract 0 k).data.toList = s.data.toList.take k := by rw [Lib.extract_data]; rfl
      have hts : (s.extract 0 k).size = k := by rw [← len_data, htl, List.length_take, len_data]; omega
      have hl := plc_line s k hk
      have hc := plc_col (s.extract 0 k) k (by omega)
      rw [htl, List.take_take, Nat.min_self] at hc
      have HC1 : Hid (∀ w, Calls Tryd.prog 44 #[.string (s.extract 0 k), .string ⟨#[10]⟩] w fun e w' => e = .returned (.int .i64 ((plc (s.data.toList.take k)).1 - 1)) ∧ w' = w) := fun w => (Tryd.strings_Count_one _ _ w).mono fun e w' h => ⟨by rw [h.1]; apply ret_int; rw [htl]; omega, h.2⟩
      have HC2 : Hid (∀ w, Calls Tryd.prog 45 #[.string (s.extract 0 k), .int .u8 10] w fun e w' => e = .returned (.int .i64 ((k : Int) - (plc (s.data.toList.take k)).2)) ∧ w' = w) := fun w => (Tryd.strings_LastIndexByte _ _ (by omega) w).mono fun e w' h => ⟨by rw [h.1]; apply ret_int; unfold Lib.lastIndexByte; rw [hts]; omega, h.2⟩
      have hcnt : Lib.countByte (s.data.toList.take k) 10 ≤ k := by
        unfold Lib.countByte
        have := List.count_le_length (a := (10 : UInt8)) (l := s.data.toList.take k)
        rw [List.length_take] at this; omega
      obtain ⟨A, hA⟩ : ∃ A, A = (plc (s.data.toList.take k)).1 := ⟨_, rfl⟩
      obtain ⟨B, hB⟩ : ∃ B, B = (plc (s.data.toList.take k)).2 := ⟨_, rfl⟩
      have hsp := Lib.lastIdx_spec (s.extract 0 k) 10 k
      have hB1 : 1 ≤ B ∧ B ≤ k + 1 := by
        rw [← hB] at hc
        rcases hsp with ⟨h, _⟩ | ⟨i, hi, h, _⟩ <;> omega
      have hA1 : 1 ≤ A ∧ A ≤ k + 1 := by rw [← hA] at hl; omega
      rw [← hA] at HC1
      rw [← hB] at HC2
      have HA := Lib.hid hA
      have HB := Lib.hid hB
      clear hA hB hl hc hsp htl hts hcnt
      go_enter Tryd.func20, Tryd.ntmps20
      go_wp2_with (first | (go_at_call 44; refine (HC1.out _).mono ?_; rintro e w' ⟨rfl, rfl⟩) | (go_at_call 45; refine (HC2.out _).mono ?_; rintro e w' ⟨rfl, rfl⟩))
      go_ret3
      exact ⟨WhereRes_ok hk (by rw [← HA.out]; omega) (by rw [← HB.out]; omega), rfl⟩

theorem plc_bd (l : List UInt8) : 1 ≤ (plc l).1 ∧ (plc l).1 ≤ l.length + 1 ∧ 1 ≤ (plc l).2 ∧ (plc l).2 ≤ l.length + 1 := by
  have h : ∀ (l : List UInt8) (x : Int × Int) (n : Nat), 1 ≤ x.1 ∧ x.1 ≤ n + 1 ∧ 1 ≤ x.2 ∧ x.2 ≤ n + 1 →
      1 ≤ (l.foldl (fun x c => if c = 10 then (x.1 + 1, 1) else (x.1, x.2 + 1)) x).1 ∧ (l.foldl (fun x c => if c = 10 then (x.1 + 1, 1) else (x.1, x.2 + 1)) x).1 ≤ (n + l.length : Nat) + 1 ∧
      1 ≤ (l.foldl (fun x c => if c = 10 then (x.1 + 1, 1) else (x.1, x.2 + 1)) x).2 ∧ (l.foldl (fun x c => if c = 10 then (x.1 + 1, 1) else (x.1, x.2 + 1)) x).2 ≤ (n + l.length : Nat) + 1 := by
    intro l
    induction l with
    | nil => intro x n hx; simpa using hx
    | cons c r ih =>
      intro x n hx
      rw [List.foldl_cons, List.length_cons, show n + (r.length + 1) = (n + 1) + r.length from by omega]
      refine ih _ (n + 1) ?_
      split <;> simp <;> omega
  have := h l (1, 1) 0 (by simp)
  unfold plc
  simpa using this

set_option maxHeartbeats 400000 in
theorem rWhere_any (s : ByteArray) (p : Int) (w : World) (hs : s.size ≤ 281474976710656) (hp : -9223372036854775808 ≤ p ∧ p ≤ 9223372036854775807) :
    Calls Tryd.prog 21 #[.string s, .int .i64 p] w fun e w' => e = WhereRes s p ∧ w = w' := by
  by_cases h0 : p < 0 ∨ (s.size : Int) < p
  · have HI : Hid (∀ w, Calls Tryd.prog 34 #[.int .i64 p, .int .i64 0, .int .i64 (s.size : Int)] w fun e w' => e = .returned (.bool false) ∧ w = w') := fun w => (In_any _ _ _ w).mono fun e w' h => ⟨by rw [h.1]; apply ret_bool; rcases h0 with h0 | h0 <;> simp <;> omega, h.2⟩
    have HR := Lib.hid (WhereRes_bad h0)
    clear h0
    go_enter Tryd.func21, Tryd.ntmps21
    go_wp2_with (go_at_call 34; refine (HI.out _).mono ?_; rintro e w' ⟨rfl, rfl⟩)
    go_ret3
    exact ⟨HR.out, rfl⟩
  · obtain ⟨q, rfl⟩ := Int.eq_ofNat_of_zero_le (show 0 ≤ p by omega)
    have hk : q ≤ s.size := by omega
    have HI : Hid (∀ w, Calls Tryd.prog 34 #[.int .i64 (q : Int), .int .i64 0, .int .i64 (s.size : Int)] w fun e w' => e = .returned (.bool true) ∧ w = w') := fun w => (In_any _ _ _ w).mono fun e w' h => ⟨by rw [h.1]; apply ret_bool; simp; omega, h.2⟩
    clear h0
    go_enter Tryd.func21, Tryd.ntmps21
    go_wp2_with (go_at_call 34; refine (HI.out _).mono ?_; rintro e w' ⟨rfl, rfl⟩)
    go_loop [7, 8, 9] (fun a c i => ∃ (k : Nat) (A C : Int), k ≤ q ∧ i = .int .i64 (k : Int) ∧ a = .int .i64 A ∧ c = .int .i64 C ∧ Hid (A = (plc (s.data.toList.take k)).1) ∧ Hid (C = (plc (s.data.toList.take k)).2)) (fun _ _ i => q - (intOf i).toNat)
    case atStart => exact ⟨0, 1, 1, by omega, rfl, rfl, rfl, rfl, rfl⟩
    case round =>
      obtain ⟨k, A, C, hkq, rfl, rfl, rfl, HA, HC⟩ := hrel
      have hbd : 1 ≤ A ∧ A ≤ k + 1 ∧ 1 ≤ C ∧ C ≤ k + 1 := by
        have := plc_bd (s.data.toList.take k)
        rw [HA.out, HC.out]
        rw [List.length_take, len_data] at this
        omega
      obtain ⟨b1, b2, b3, b4⟩ := hbd
      by_cases hlt : k < q
      · have hks : k < s.size := by omega
        have HS := Lib.hid (plc_snoc (s.data.toList.take k) s[k])
        have HT := Lib.hid (take_snoc s k hks)
        have g10 : (((s[k]'hks).toNat : Int) == 10) = (s[k] == 10) := beq_u8 (by decide)
        by_cases hc : s[k] = 10
        · have b10 : (((s[k]'hks).toNat : Int) == 10) = true := by rw [g10, hc]; rfl
          have H1 : Hid (A + 1 = (plc (s.data.toList.take (k + 1))).1) := by show _ = _; rw [HT.out, HS.out, if_pos hc, HA.out]
          have H2 : Hid ((1 : Int) = (plc (s.data.toList.take (k + 1))).2) := by show _ = _; rw [HT.out, HS.out, if_pos hc]
          clear g10 hc
          go_wp2_with fail
          go_round
          case rel => exact ⟨k + 1, _, _, by omega, by go_num, rfl, rfl, H1, H2⟩
          case measure => simp [intOf]; omega
        · have b10 : (((s[k]'hks).toNat : Int) == 10) = false := by rw [g10]; simpa using hc
          have H1 : Hid (A = (plc (s.data.toList.take (k + 1))).1) := by show _ = _; rw [HT.out, HS.out, if_neg hc, HA.out]
          have H2 : Hid (C + 1 = (plc (s.data.toList.take (k + 1))).2) := by show _ = _; rw [HT.out, HS.out, if_neg hc, HC.out]
          clear g10 hc
          go_wp2_with fail
          go_round
          case rel => exact ⟨k + 1, _, _, by omega, by go_num, rfl, rfl, H1, H2⟩
          case measure => simp [intOf]; omega
      · obtain rfl : k = q := by omega
        go_wp2_with fail
        go_ret3
        exact ⟨WhereRes_ok hk HA.out HC.out, rfl⟩
end Go.Proofs.YtdnolbbkphgfiaaDoor
