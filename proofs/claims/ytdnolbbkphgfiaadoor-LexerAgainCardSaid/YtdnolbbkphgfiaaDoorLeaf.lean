/- The leaf functions of the lexer and of its reference: what each returns. -/
import Derived.Test.YtdnolbbkphgfiaaDoorRows
import Derived.WalkKit
import Derived.WalkSpells
import Derived.WalkLawsBesides
import Derived.BigQuiet
import Derived.Deep.QuietTactic
import Derived.Lib.Hide
import Derived.Lib.OthersKept
import Derived.Test.YtdnolbbkphgfiaaDoorPlain
namespace Go.Proofs.YtdnolbbkphgfiaaDoor
open Go.RowKit

theorem ret_int {k : IntKind} {a b : Int} (h : a = b) : Ending.returned (.int k a) = .returned (.int k b) := by rw [h]
theorem ret_bool {a b : Bool} (h : a = b) : Ending.returned (.bool a) = .returned (.bool b) := by rw [h]

set_option maxHeartbeats 400000 in
theorem kindOf_any (c : Int) (w : World) :
    Calls Tryd.prog 66 #[.int .i32 c] w fun e w' => e = .returned (.int .i64 (kindI c)) ∧ w = w' := by
  by_cases h95 : c = 95
  · subst h95
    go_enter Tryd.func66, Tryd.ntmps66
    go_wp2
    go_ret
    exact ⟨ret_int rfl, rfl⟩
  · have hb : (c == 95) = false := by simpa using h95
    go_enter Tryd.func66, Tryd.ntmps66
    go_wp2
    all_goals go_ret
    all_goals refine ⟨ret_int ?_, rfl⟩
    all_goals unfold kindI
    all_goals (clear hb; repeat' split)
    all_goals omega

def wrapI (n : Int) : Int := if 999999999 < n.tmod 1999999999 then n.tmod 1999999999 - 1999999999 else if n.tmod 1999999999 < -999999999 then n.tmod 1999999999 + 1999999999 else n.tmod 1999999999

theorem tmod_bd (n : Int) : -1999999999 < n.tmod 1999999999 ∧ n.tmod 1999999999 < 1999999999 := by
  have h1 := Int.tmod_lt_of_pos n (b := 1999999999) (by omega)
  have h2 := Int.lt_tmod_of_pos n (b := 1999999999) (by omega)
  omega

set_option maxHeartbeats 400000 in
theorem Wrap_any (n : Int) (w : World) :
    Calls Tryd.prog 22 #[.int .i64 n] w fun e w' => e = .returned (.int .i64 (wrapI n)) ∧ w = w' := by
  have hb := tmod_bd n
  go_enter Tryd.func22, Tryd.ntmps22
  go_wp2
  all_goals go_ret
  all_goals refine ⟨ret_int ?_, rfl⟩
  all_goals unfold wrapI
  all_goals repeat' split
  all_goals omega

set_option maxHeartbeats 400000 in
theorem rWrap_any (n : Int) (w : World) :
    Calls Tryd.prog 23 #[.int .i64 n] w fun e w' => e = .returned (.int .i64 (wrapI n)) ∧ w = w' := by
  have hb := tmod_bd n
  go_enter Tryd.func23, Tryd.ntmps23
  go_wp2
  all_goals go_ret
  all_goals refine ⟨ret_int ?_, rfl⟩
  all_goals unfold wrapI
  all_goals repeat' split
  all_goals omega
theorem In_any (c : Int) (n k : Int) (w : World) :
    Calls Tryd.prog 34 #[.int .i64 c, .int .i64 n, .int .i64 k] w fun e w' => e = .returned (.bool (decide (n ≤ c) && decide (c ≤ k))) ∧ w = w' := by
  by_cases h1 : n ≤ c <;> by_cases h2 : c ≤ k
  all_goals
    go_enter Tryd.func34, Tryd.ntmps34
    go_wp2
    go_ret
    exact ⟨ret_bool (by simp [h1, h2]), rfl⟩

def lettB (c : Int) : Bool := decide (kindI c = 1 ∨ kindI c = 2)
def digB (c : Int) : Bool := decide (kindI c = 3)
def blankB (c : Int) : Bool := c == 32 || c == 9 || c == 10

set_option maxHeartbeats 400000 in
theorem letter_any (c : Int) (w : World) :
    Calls Tryd.prog 71 #[.int .u8 c] w fun e w' => e = .returned (.bool (lettB c)) ∧ w = w' := by
  have hl : lettB c = (decide (97 ≤ c) && decide (c ≤ 122) || decide (65 ≤ c) && decide (c ≤ 90) || (c == 95)) := by
    unfold lettB kindI
    rw [Bool.eq_iff_iff]
    simp only [decide_eq_true_eq, Bool.or_eq_true, Bool.and_eq_true, beq_iff_eq]
    constructor
    · intro h; repeat' split at h
      all_goals omega
    · intro h; repeat' split
      all_goals omega
  rw [hl]; clear hl
  by_cases h95 : c = 95
  · subst h95
    go_enter Tryd.func71, Tryd.ntmps71
    go_wp2
    go_ret
    exact ⟨rfl, rfl⟩
  · have hb : (c == 95) = false := by simpa using h95
    by_cases h1 : 97 ≤ c <;> by_cases h2 : c ≤ 122 <;> by_cases h3 : 65 ≤ c <;> by_cases h4 : c ≤ 90
    all_goals first | (exfalso; omega) | skip
    all_goals
      go_enter Tryd.func71, Tryd.ntmps71
      go_wp2
      go_ret
      exact ⟨ret_bool (by simp [h1, h2, h3, h4]), rfl⟩

set_option maxHeartbeats 400000 in
theorem digit_any (c : Int) (w : World) :
    Calls Tryd.prog 72 #[.int .u8 c] w fun e w' => e = .returned (.bool (digB c)) ∧ w = w' := by
  have hl : digB c = (decide (48 ≤ c) && decide (c ≤ 57)) := by
    unfold digB kindI
    rw [Bool.eq_iff_iff]
    simp only [decide_eq_true_eq, Bool.and_eq_true]
    constructor
    · intro h; repeat' split at h
      all_goals omega
    · intro h; repeat' split
      all_goals omega
  rw [hl]; clear hl
  by_cases h1 : 48 ≤ c <;> by_cases h2 : c ≤ 57
  all_goals
    go_enter Tryd.func72, Tryd.ntmps72
    go_wp2
    go_ret
    exact ⟨ret_bool (by simp [h1, h2]), rfl⟩

set_option maxHeartbeats 400000 in
theorem blank_any (c : Int) (w : World) :
    Calls Tryd.prog 51 #[.int .u8 c] w fun e w' => e = .returned (.bool (blankB c)) ∧ w = w' := by
  unfold blankB
  by_cases h1 : c = 32
  · subst h1
    go_enter Tryd.func51, Tryd.ntmps51
    go_wp2
    go_ret
    exact ⟨rfl, rfl⟩
  by_cases h2 : c = 9
  · subst h2
    go_enter Tryd.func51, Tryd.ntmps51
    go_wp2
    go_ret
    exact ⟨rfl, rfl⟩
  have hb1 : (c == 32) = false := by simpa using h1
  have hb2 : (c == 9) = false := by simpa using h2
  clear h1 h2
  go_enter Tryd.func51, Tryd.ntmps51
  go_wp2
  all_goals go_ret
  all_goals exact ⟨ret_bool (by simp [*]), rfl⟩
end Go.Proofs.YtdnolbbkphgfiaaDoor
