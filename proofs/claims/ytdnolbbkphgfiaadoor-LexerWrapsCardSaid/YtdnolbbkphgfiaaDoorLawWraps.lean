/- The law LexerWraps, walked. -/
import Derived.Test.YtdnolbbkphgfiaaDoorWrapMath
import Derived.Test.YtdnolbbkphgfiaaDoorAwake
namespace Go.Proofs.YtdnolbbkphgfiaaDoor
open Go.RowKit

theorem C22 {n m : Int} (h : wrapI n = m) (w : World) : Calls Tryd.prog 22 #[.int .i64 n] w fun e w' => e = .returned (.int .i64 m) ∧ w = w' := by
  rw [← h]; exact Wrap_any n w
theorem C34 {n a b : Int} {r : Bool} (h : (decide (a ≤ n) && decide (n ≤ b)) = r) (w : World) : Calls Tryd.prog 34 #[.int .i64 n, .int .i64 a, .int .i64 b] w fun e w' => e = .returned (.bool r) ∧ w = w' := by
  rw [← h]; exact In_any n a b w
theorem mul_bd {p q : Int} {A B : Nat} (hp : p.natAbs ≤ A) (hq : q.natAbs ≤ B) : -((A * B : Nat) : Int) ≤ p * q ∧ p * q ≤ ((A * B : Nat) : Int) := by
  have h := Nat.mul_le_mul hp hq
  rw [← Int.natAbs_mul] at h
  omega

set_option maxRecDepth 100000 in
set_option maxHeartbeats 2000000 in
theorem wraps_walk (x y : Int) (w : World) (hx : -2147483648 ≤ x ∧ x ≤ 2147483647) (hy : -2147483648 ≤ y ∧ y ≤ 2147483647) (hE : Env w) :
    Calls Tryd.prog 12 #[.int .i32 x, .int .i32 y] w (Fin w) := by
  have HA := Lib.hid (Awake_any w hE)
  clear hE
  obtain ⟨p, hp⟩ : ∃ p, wrapI x = p := ⟨_, rfl⟩
  obtain ⟨q, hq⟩ : ∃ q, wrapI y = q := ⟨_, rfl⟩
  have hpb : -999999999 ≤ p ∧ p ≤ 999999999 := by obtain ⟨k, h1, h2, h3⟩ := wrapI_spec x; omega
  have hqb : -999999999 ≤ q ∧ q ≤ 999999999 := by obtain ⟨k, h1, h2, h3⟩ := wrapI_spec y; omega
  have HP := Lib.hid hp
  have HQ := Lib.hid hq
  have HPP := Lib.hid (wrapI_in hpb)
  have m1 := mul_bd (p := p) (q := q) (A := 999999999) (B := 999999999) (by omega) (by omega)
  have m2 := mul_bd (p := x) (q := y) (A := 2147483648) (B := 2147483648) (by omega) (by omega)
  have w1 : wrap64 (p * q) = p * q := IntWalk.wrap64_in _ (by omega)
  have w2 : wrap64 (x * y) = x * y := IntWalk.wrap64_in _ (by omega)
  have HADD := Lib.hid (show wrapI (p + q) = wrapI (x + y) by rw [← hp, ← hq]; exact wrapI_add x y)
  have HSUB := Lib.hid (show wrapI (p - q) = wrapI (x - y) by rw [← hp, ← hq]; exact wrapI_sub x y)
  have HMUL := Lib.hid (show wrapI (p * q) = wrapI (x * y) by rw [← hp, ← hq]; exact wrapI_mul x y)
  have HNEG := Lib.hid (show wrapI (-p) = -p by rw [← hp]; have := wrapI_neg x; rwa [Int.zero_sub] at this)
  have HRX : Hid ((-999999999 ≤ x ∧ x ≤ 999999999) → p = x) := fun h => by rw [← hp]; exact wrapI_in h
  clear hp hq m1 m2
  obtain ⟨hx1, hx2⟩ := hx
  obtain ⟨hy1, hy2⟩ := hy
  obtain ⟨hp1, hp2⟩ := hpb
  obtain ⟨hq1, hq2⟩ := hqb
  obtain ⟨br, hbr⟩ : ∃ br, (decide (-999999999 ≤ x) && decide (x ≤ 999999999)) = br := ⟨_, rfl⟩
  have HBR := Lib.hid hbr
  have main : ∀ b', br = b' → Calls Tryd.prog 12 #[.int .i32 x, .int .i32 y] w (Fin w) := by
    intro b' hb'
    have hpx : b' = true → (p != x) = false := by
      intro h
      have : p = x := HRX.out (by rw [hb', h] at hbr; simpa using hbr)
      simp [this]
    have HBR2 := Lib.hid (show (decide (-999999999 ≤ x) && decide (x ≤ 999999999)) = b' by rw [hbr, hb'])
    clear hbr hb' HBR
    cases b' with
    | true =>
      have hpx' := hpx rfl
      clear hpx
      go_enter Tryd.func12, Tryd.ntmps12
      go_wp2_with fail
      refine (C22 HP.out _).mono ?_; rintro e w' ⟨rfl, rfl⟩; go_wp2_with fail
      refine (C22 HQ.out _).mono ?_; rintro e w' ⟨rfl, rfl⟩; go_wp2_with fail
      refine (C34 (r := true) (by simp; omega) _).mono ?_; rintro e w' ⟨rfl, rfl⟩; go_wp2_with fail
      refine (C34 (r := true) (by simp; omega) _).mono ?_; rintro e w' ⟨rfl, rfl⟩; go_wp2_with fail
      refine (C22 HPP.out _).mono ?_; rintro e w' ⟨rfl, rfl⟩; go_wp2_with fail
      refine (C34 HBR2.out _).mono ?_; rintro e w' ⟨rfl, rfl⟩; go_wp2_with fail
      refine (C22 HADD.out _).mono ?_; rintro e w' ⟨rfl, rfl⟩; go_wp2_with fail
      refine (C22 rfl _).mono ?_; rintro e w' ⟨rfl, rfl⟩; go_wp2_with fail
      refine (C22 HSUB.out _).mono ?_; rintro e w' ⟨rfl, rfl⟩; go_wp2_with fail
      refine (C22 rfl _).mono ?_; rintro e w' ⟨rfl, rfl⟩; go_wp2_with fail
      refine (C22 HMUL.out _).mono ?_; rintro e w' ⟨rfl, rfl⟩; go_wp2_with fail
      refine (C22 rfl _).mono ?_; rintro e w' ⟨rfl, rfl⟩; go_wp2_with fail
      refine (C22 HNEG.out _).mono ?_; rintro e w' ⟨rfl, rfl⟩; go_wp2_with fail
      refine (Calls.mono HA.out ?_); rintro e w' ⟨rfl, hb⟩; go_wp2_with fail
      go_ret
      exact ⟨rfl, hb⟩
    | false =>
      clear hpx
      go_enter Tryd.func12, Tryd.ntmps12
      go_wp2_with fail
      refine (C22 HP.out _).mono ?_; rintro e w' ⟨rfl, rfl⟩; go_wp2_with fail
      refine (C22 HQ.out _).mono ?_; rintro e w' ⟨rfl, rfl⟩; go_wp2_with fail
      refine (C34 (r := true) (by simp; omega) _).mono ?_; rintro e w' ⟨rfl, rfl⟩; go_wp2_with fail
      refine (C34 (r := true) (by simp; omega) _).mono ?_; rintro e w' ⟨rfl, rfl⟩; go_wp2_with fail
      refine (C22 HPP.out _).mono ?_; rintro e w' ⟨rfl, rfl⟩; go_wp2_with fail
      refine (C34 HBR2.out _).mono ?_; rintro e w' ⟨rfl, rfl⟩; go_wp2_with fail
      refine (C22 HADD.out _).mono ?_; rintro e w' ⟨rfl, rfl⟩; go_wp2_with fail
      refine (C22 rfl _).mono ?_; rintro e w' ⟨rfl, rfl⟩; go_wp2_with fail
      refine (C22 HSUB.out _).mono ?_; rintro e w' ⟨rfl, rfl⟩; go_wp2_with fail
      refine (C22 rfl _).mono ?_; rintro e w' ⟨rfl, rfl⟩; go_wp2_with fail
      refine (C22 HMUL.out _).mono ?_; rintro e w' ⟨rfl, rfl⟩; go_wp2_with fail
      refine (C22 rfl _).mono ?_; rintro e w' ⟨rfl, rfl⟩; go_wp2_with fail
      refine (C22 HNEG.out _).mono ?_; rintro e w' ⟨rfl, rfl⟩; go_wp2_with fail
      refine (Calls.mono HA.out ?_); rintro e w' ⟨rfl, hb⟩; go_wp2_with fail
      go_ret
      exact ⟨rfl, hb⟩
  exact main _ rfl
end Go.Proofs.YtdnolbbkphgfiaaDoor
