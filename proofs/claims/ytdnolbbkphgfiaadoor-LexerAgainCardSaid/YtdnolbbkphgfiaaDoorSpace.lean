/- The reader's method space, and the reference's Space. -/
import Derived.Test.YtdnolbbkphgfiaaDoorSrc
namespace Go.Proofs.YtdnolbbkphgfiaaDoor
open Go.RowKit

theorem drop_cons (s : ByteArray) (m : Nat) (h : m < s.size) : s.data.toList.drop m = s[m] :: s.data.toList.drop (m + 1) := by
  rw [List.drop_eq_getElem_cons (by rw [len_data]; exact h)]; rfl
theorem drop_end (s : ByteArray) (m : Nat) (h : ¬ m < s.size) : s.data.toList.drop m = [] := by
  apply List.drop_eq_nil_of_le; rw [len_data]; omega
theorem u8_eq (c : UInt8) (n : UInt8) : c = n ↔ (c.toNat : Int) = (n.toNat : Int) := by
  rw [UInt8.toNat_inj.symm]; omega
theorem sp_end (s : ByteArray) (m : Nat) (cm : Bool) (h : ¬ m < s.size) : spLen cm (s.data.toList.drop m) = 0 := by rw [drop_end s m h]; cases cm <;> rfl
theorem sp_nl (s : ByteArray) (m : Nat) (cm : Bool) (h : m < s.size) (hc : s[m] = 10) : spLen cm (s.data.toList.drop m) = 1 + spLen false (s.data.toList.drop (m + 1)) := by
  rw [drop_cons s m h]; simp [spLen, hc]
theorem sp_hash (s : ByteArray) (m : Nat) (cm : Bool) (h : m < s.size) (hc : s[m] = 35) : spLen cm (s.data.toList.drop m) = 1 + spLen true (s.data.toList.drop (m + 1)) := by
  rw [drop_cons s m h]; simp [spLen, hc]
theorem sp_in (s : ByteArray) (m : Nat) (cm : Bool) (h : m < s.size) (h1 : s[m] ≠ 10) (h2 : s[m] ≠ 35) (hc : cm = true ∨ s[m] = 32 ∨ s[m] = 9) : spLen cm (s.data.toList.drop m) = 1 + spLen cm (s.data.toList.drop (m + 1)) := by
  rw [drop_cons s m h]; simp only [spLen, h1, h2, if_false]
  rw [if_pos]
  rcases hc with rfl | hc | hc <;> simp [*]
theorem sp_out (s : ByteArray) (m : Nat) (h : m < s.size) (h1 : s[m] ≠ 10) (h2 : s[m] ≠ 35) (h3 : s[m] ≠ 32) (h4 : s[m] ≠ 9) : spLen false (s.data.toList.drop m) = 0 := by
  rw [drop_cons s m h]; simp [spLen, h1, h2, h3, h4]
theorem beq_u8 {c : UInt8} {n : Nat} (hn : n < 256) : ((c.toNat : Int) == (n : Int)) = (c == UInt8.ofNat n) := by
  rw [Bool.eq_iff_iff, beq_iff_eq, beq_iff_eq, u8_eq]
  simp [UInt8.toNat_ofNat', Nat.mod_eq_of_lt hn]

set_option maxHeartbeats 600000 in
theorem space_any (b : Nat) (s : ByteArray) (p : Nat) (q : Int) (w : World) (hS : Src w b s p q) (hs : s.size ≤ 30000) (hp : p ≤ s.size) :
    Calls Tryd.prog 52 #[.pointer (some ⟨b, 0, none⟩)] w fun e w' => e = .returned (.string (s.extract p (p + spLen false (s.data.toList.drop p)))) ∧ Moved w w' b s ((p + spLen false (s.data.toList.drop p) : Nat) : Int) q := by
  have h0 := hS.c0
  have h1 := hS.c1
  have HS := Lib.hid hS
  clear hS
  go_enter Tryd.func52, Tryd.ntmps52
  go_wp2
  go_loop [3, 4] (fun i c => ∃ (m : Nat) (cm : Bool), p ≤ m ∧ m ≤ s.size ∧ i = .int .i64 (m : Int) ∧ c = .bool cm ∧ Hid (p + spLen false (s.data.toList.drop p) = m + spLen cm (s.data.toList.drop m))) (fun i _ => s.size - (intOf i).toNat)
  case atStart => exact ⟨p, false, by omega, hp, rfl, rfl, rfl⟩
  case round =>
    obtain ⟨m, cm, hpm, hk, rfl, rfl, HA⟩ := hrel
    have HT : Hid (∀ w : World, Src w b s p q → Calls Tryd.prog 67 #[.pointer (some ⟨b, 0, none⟩), .int .i64 ((m : Int) - p)] w fun e w' => e = .returned (.string (s.extract p m)) ∧ Moved w w' b s (m : Int) q) := fun w h => by
      have := take_any b s p (m - p) q w h hs (by omega)
      rw [show p + (m - p) = m from by omega, show ((m - p : Nat) : Int) = (m : Int) - p from by omega] at this
      exact this
    by_cases hlt : m < s.size
    · have g10 : (((s[m]'hlt).toNat : Int) == 10) = (s[m] == 10) := beq_u8 (by decide)
      have g35 : (((s[m]'hlt).toNat : Int) == 35) = (s[m] == 35) := beq_u8 (by decide)
      have g32 : (((s[m]'hlt).toNat : Int) == 32) = (s[m] == 32) := beq_u8 (by decide)
      have g9 : (((s[m]'hlt).toNat : Int) == 9) = (s[m] == 9) := beq_u8 (by decide)
      by_cases c10 : s[m] = 10
      · have HW : Hid (p + spLen false (s.data.toList.drop p) = m + 1 + spLen false (s.data.toList.drop (m + 1))) := by
          show _ = _
          rw [HA.out, sp_nl s m cm hlt c10]; omega
        clear HA
        have b10 : (((s[m]'hlt).toNat : Int) == 10) = true := by rw [g10, c10]; rfl
        clear g10 g35 g32 g9 c10
        go_wp2_with fail
        go_round
        case rel => exact ⟨m + 1, false, by omega, by omega, by go_num, rfl, HW⟩
        case measure => simp [intOf]; omega
      have b10 : (((s[m]'hlt).toNat : Int) == 10) = false := by rw [g10]; simpa using c10
      by_cases c35 : s[m] = 35
      · have HW : Hid (p + spLen false (s.data.toList.drop p) = m + 1 + spLen true (s.data.toList.drop (m + 1))) := by
          show _ = _
          rw [HA.out, sp_hash s m cm hlt c35]; omega
        clear HA
        have b35 : (((s[m]'hlt).toNat : Int) == 35) = true := by rw [g35, c35]; rfl
        clear g10 g35 g32 g9 c10 c35
        go_wp2_with fail
        go_round
        case rel => exact ⟨m + 1, true, by omega, by omega, by go_num, rfl, HW⟩
        case measure => simp [intOf]; omega
      have b35 : (((s[m]'hlt).toNat : Int) == 35) = false := by rw [g35]; simpa using c35
      by_cases hin : cm = true ∨ s[m] = 32 ∨ s[m] = 9
      · have HW : Hid (p + spLen false (s.data.toList.drop p) = m + 1 + spLen cm (s.data.toList.drop (m + 1))) := by
          show _ = _
          rw [HA.out, sp_in s m cm hlt c10 c35 hin]; omega
        clear HA c10 c35
        cases cm with
        | true =>
          clear hin g10 g35 g32 g9
          go_wp2_with fail
          go_round
          case rel => exact ⟨m + 1, true, by omega, by omega, by go_num, rfl, HW⟩
          case measure => simp [intOf]; omega
        | false =>
          by_cases c32 : s[m] = 32
          · have b32 : (((s[m]'hlt).toNat : Int) != 32) = false := by rw [bne, g32, c32]; rfl
            clear hin g10 g35 g32 g9 c32
            go_wp2_with fail
            go_round
            case rel => exact ⟨m + 1, false, by omega, by omega, by go_num, rfl, HW⟩
            case measure => simp [intOf]; omega
          · have c9 : s[m] = 9 := by simpa [c32] using hin
            have b32 : (((s[m]'hlt).toNat : Int) != 32) = true := by rw [bne, g32]; simpa using c32
            have b9 : (((s[m]'hlt).toNat : Int) != 9) = false := by rw [bne, g9, c9]; rfl
            clear hin g10 g35 g32 g9 c32 c9
            go_wp2_with fail
            go_round
            case rel => exact ⟨m + 1, false, by omega, by omega, by go_num, rfl, HW⟩
            case measure => simp [intOf]; omega
      · obtain ⟨hcm, c32, c9⟩ : cm = false ∧ s[m] ≠ 32 ∧ s[m] ≠ 9 := by
          refine ⟨?_, fun e => hin (.inr (.inl e)), fun e => hin (.inr (.inr e))⟩
          cases cm with
          | false => rfl
          | true => exact absurd (.inl rfl) hin
        subst hcm
        have HW : Hid (p + spLen false (s.data.toList.drop p) = m) := by
          show _ = _
          rw [HA.out, sp_out s m hlt c10 c35 c32 c9, Nat.add_zero]
        clear HA
        have b32 : (((s[m]'hlt).toNat : Int) != 32) = true := by rw [bne, g32]; simpa using c32
        have b9 : (((s[m]'hlt).toNat : Int) != 9) = true := by rw [bne, g9]; simpa using c9
        clear hin g10 g35 g32 g9 c32 c9 c10 c35
        go_wp2_with (go_at_call 67; refine (HT.out _ HS.out).mono ?_; rintro e w' ⟨rfl, HM⟩)
        go_ret
        rw [HW.out]
        exact ⟨rfl, HM⟩
    · have HW : Hid (p + spLen false (s.data.toList.drop p) = m) := by
        show _ = _
        rw [HA.out, sp_end s m cm hlt, Nat.add_zero]
      clear HA
      go_wp2_with (go_at_call 67; refine (HT.out _ HS.out).mono ?_; rintro e w' ⟨rfl, HM⟩)
      go_ret
      rw [HW.out]
      exact ⟨rfl, HM⟩
end Go.Proofs.YtdnolbbkphgfiaaDoor
