/- Laws of integers that wrap around. -/
import Derived.Test.YtdnolbbkphgfiaaDoorLeaf
namespace Go.Proofs.YtdnolbbkphgfiaaDoor

theorem wrapI_spec (n : Int) : ∃ k : Int, n = wrapI n + 1999999999 * k ∧ -999999999 ≤ wrapI n ∧ wrapI n ≤ 999999999 := by
  have hb := tmod_bd n
  have hd : 1999999999 * n.tdiv 1999999999 + n.tmod 1999999999 = n := Int.mul_tdiv_add_tmod n 1999999999
  obtain ⟨t, ht⟩ : ∃ t, t = n.tmod 1999999999 := ⟨_, rfl⟩
  obtain ⟨d, hd'⟩ : ∃ d, d = n.tdiv 1999999999 := ⟨_, rfl⟩
  unfold wrapI
  rw [← ht] at hb hd ⊢
  rw [← hd'] at hd
  split
  · exact ⟨d + 1, by omega, by omega, by omega⟩
  · split
    · exact ⟨d - 1, by omega, by omega, by omega⟩
    · exact ⟨d, by omega, by omega, by omega⟩
theorem wrapI_congr {a b : Int} (h : a % 1999999999 = b % 1999999999) : wrapI a = wrapI b := by
  obtain ⟨k, h1, h2, h3⟩ := wrapI_spec a
  obtain ⟨j, g1, g2, g3⟩ := wrapI_spec b
  omega
theorem wrapI_mod (n : Int) : wrapI n % 1999999999 = n % 1999999999 := by
  obtain ⟨k, h1, h2, h3⟩ := wrapI_spec n
  omega
theorem wrapI_in {n : Int} (h : -999999999 ≤ n ∧ n ≤ 999999999) : wrapI n = n := by
  obtain ⟨k, h1, h2, h3⟩ := wrapI_spec n
  omega
theorem wrapI_add (x y : Int) : wrapI (wrapI x + wrapI y) = wrapI (x + y) := wrapI_congr (by rw [Int.add_emod, wrapI_mod, wrapI_mod, ← Int.add_emod])
theorem wrapI_sub (x y : Int) : wrapI (wrapI x - wrapI y) = wrapI (x - y) := wrapI_congr (by rw [Int.sub_emod, wrapI_mod, wrapI_mod, ← Int.sub_emod])
theorem wrapI_mul (x y : Int) : wrapI (wrapI x * wrapI y) = wrapI (x * y) := wrapI_congr (by rw [Int.mul_emod, wrapI_mod, wrapI_mod, ← Int.mul_emod])
theorem wrapI_neg (x : Int) : wrapI (0 - wrapI x) = 0 - wrapI x := by
  obtain ⟨k, h1, h2, h3⟩ := wrapI_spec x
  exact wrapI_in (by omega)
end Go.Proofs.YtdnolbbkphgfiaaDoor
