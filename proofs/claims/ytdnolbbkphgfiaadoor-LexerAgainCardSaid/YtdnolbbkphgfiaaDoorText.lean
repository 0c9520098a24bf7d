/- textOf: the bytes of a token, and whether it is well formed. -/
import Derived.Test.YtdnolbbkphgfiaaDoorTok
import Derived.Laws.StructEq
import Derived.Lib.ItoaLen
namespace Go.Proofs.YtdnolbbkphgfiaaDoor
open Go.RowKit

def textS (k : Int) (s : List UInt8) (n : Int) : List UInt8 := if k = 3 then Lib.itoa n else s
def validS (k : Int) (s : List UInt8) (n : Int) : Bool := decide (tokS (textS k s n) = some (k, s, n))
theorem Env.syms {w : World} (h : Env w) : Syms w := h.1
theorem itoa_len (n : Int) (h : -9223372036854775808 ≤ n ∧ n ≤ 9223372036854775807) : (Lib.itoa n).length ≤ 30 := by
  have := Lib.itoa_length_le n h.1 h.2; omega
theorem toList_ne {a b : ByteArray} (h : ¬ a.data.toList = b.data.toList) : ¬ a.toList = b.toList := by rw [ByteArray.toList_eq, ByteArray.toList_eq]; exact h
theorem toList_eq' {a b : ByteArray} (h : a.data.toList = b.data.toList) : a.toList = b.toList := by rw [ByteArray.toList_eq, ByteArray.toList_eq]; exact h

theorem ret_sb {a : ByteArray} {b b' : Bool} (h : b = b') : Ending.returned (.tuple #[.string a, .bool b]) = .returned (.tuple #[.string a, .bool b']) := by rw [h]

set_option maxHeartbeats 1000000 in
/-- from the text on -/
theorem textOf_any (k n p : Int) (s : ByteArray) (w : World) (hE : Env w) (hs : s.size ≤ maxLen) (hn : -9223372036854775808 ≤ n ∧ n ≤ 9223372036854775807) :
    Calls Tryd.prog 41 #[.agg #[.int .i64 k, .string s, .int .i64 n, .int .i64 p]] w fun e w' => e = .returned (.tuple #[.string (strB (textS k s.data.toList n)), .bool (validS k s.data.toList n)]) ∧ Below w.heap.size w w' := by
  have HE := Lib.hid hE
  clear hE
  have HD : Hid (∀ w, Env w → Calls Tryd.prog 24 #[.int .i64 n] w fun e w' => e = .returned (.string (strB (Lib.itoa n))) ∧ Below w.heap.size w w') := fun w h => Digits_any n w hn h.2
  have HB0 := Lib.hid ((Below.refl w.heap.size w).alloc (Nat.le_refl _) (.cells #[.int .i64 k, .string s, .int .i64 n, .int .i64 p] 43))
  have HT0 := Lib.hid (TB.new w k s n p)
  have HE0 := Lib.hid (HE.out.grown (World.grownBy_alloc w (.cells #[.int .i64 k, .string s, .int .i64 n, .int .i64 p] 43) none) (by simp) (by simp))
  obtain ⟨t, ht⟩ : ∃ t, t = textS k s.data.toList n := ⟨_, rfl⟩
  have hv : validS k s.data.toList n = decide (tokS t = some (k, s.data.toList, n)) := by unfold validS; rw [ht]
  have hts : (strB t).size ≤ maxLen := by
    rw [← len_data, data_strB, ht]
    unfold textS
    split
    · have := itoa_len n hn
      unfold maxLen; omega
    · rw [len_data]; exact hs
  rw [← ht]
  have HTok : Hid (∀ w, Syms w → Calls Tryd.prog 55 #[.string (strB t)] w fun e w' => e = TokRes (tokS t) ∧ Below w.heap.size w w') := fun w h => tokenOf_any (strB t) w hts h
  have main : ∀ b : Bool, (k == 3) = b → Calls Tryd.prog 41 #[.agg #[.int .i64 k, .string s, .int .i64 n, .int .i64 p]] w fun e w' => e = .returned (.tuple #[.string (strB t), .bool (decide (tokS t = some (k, s.data.toList, n)))]) ∧ Below w.heap.size w w' := by
    intro b hb
    cases b with
    | true =>
      have HI : Hid (strB (Lib.itoa n) = strB t) := by
        have : k = 3 := by simpa using hb
        show _ = _
        rw [ht]; unfold textS; rw [if_pos this]
      cases htk : tokS t with
      | none =>
        have HT : Hid (∀ w, Syms w → Calls Tryd.prog 55 #[.string (strB t)] w fun e w' => e = .returned (.tuple #[.agg #[.int .i64 0, .string ⟨#[]⟩, .int .i64 0, .int .i64 0], .bool false]) ∧ Below w.heap.size w w') := fun w h => (HTok.out w h).mono fun e w' h => ⟨by rw [h.1, htk]; rfl, h.2⟩
        have HF := Lib.hid (show false = decide ((none : Option (Int × List UInt8 × Int)) = some (k, s.data.toList, n)) by rw [decide_eq_false]; intro h; cases h)
        clear htk ht hv hts HTok
        go_enter Tryd.func41, Tryd.ntmps41
        go_wp2_with (first | (go_at_call 24; refine (HD.out _ HE0.out).mono ?_; rintro e w1 ⟨rfl, hb1⟩; rw [HI.out]; have HB1 := Lib.hid (below_call HB0.out hb1); have HT1 := Lib.hid (HT0.out.below hb1); have HE1 := Lib.hid (HE0.out.below hb1); clear hb1; have c0 := HT1.out.c0; have c1 := HT1.out.c1; have c2 := HT1.out.c2; have c3 := HT1.out.c3) | (go_at_call 55; refine (HT.out _ HE1.out.syms).mono ?_; rintro e w2 ⟨rfl, hb2⟩; have HB2 := Lib.hid (below_call HB1.out hb2); have HT2 := Lib.hid (HT1.out.below hb2); clear hb2; have d0 := HT2.out.c0; have d1 := HT2.out.c1; have d2 := HT2.out.c2; have d3 := HT2.out.c3; have hl2 := HT2.out.lt))
        go_quiet (fail)
        go_wp2
        go_ret2
        exact ⟨ret_sb HF.out, HB2.out.alloc (by have := HB2.out.size; exact this) _ |>.grown (grown_drewN _ _ none) (by have := HB2.out.size; simp; omega) (fun k e => by cases e)⟩
      | some x =>
        obtain ⟨k', s', n'⟩ := x
        have HT : Hid (∀ w, Syms w → Calls Tryd.prog 55 #[.string (strB t)] w fun e w' => e = .returned (.tuple #[.agg #[.int .i64 k', .string (strB s'), .int .i64 n', .int .i64 0], .bool true]) ∧ Below w.heap.size w w') := fun w h => (HTok.out w h).mono fun e w' h => ⟨by rw [h.1, htk]; rfl, h.2⟩
        clear htk ht hv hts HTok
        by_cases e1 : k' = k
        · subst e1
          by_cases e2 : s' = s.data.toList
          · subst e2
            rw [strB_data] at HT
            by_cases e3 : n' = n
            · subst e3
              have HF := Lib.hid (show true = decide ((some (k', s.data.toList, n') : Option (Int × List UInt8 × Int)) = some (k', s.data.toList, n')) by simp)
              go_enter Tryd.func41, Tryd.ntmps41
              go_wp2_with (first | (go_at_call 24; refine (HD.out _ HE0.out).mono ?_; rintro e w1 ⟨rfl, hb1⟩; rw [HI.out]; have HB1 := Lib.hid (below_call HB0.out hb1); have HT1 := Lib.hid (HT0.out.below hb1); have HE1 := Lib.hid (HE0.out.below hb1); clear hb1; have c0 := HT1.out.c0; have c1 := HT1.out.c1; have c2 := HT1.out.c2; have c3 := HT1.out.c3) | (go_at_call 55; refine (HT.out _ HE1.out.syms).mono ?_; rintro e w2 ⟨rfl, hb2⟩; have HB2 := Lib.hid (below_call HB1.out hb2); have HT2 := Lib.hid (HT1.out.below hb2); clear hb2; have d0 := HT2.out.c0; have d1 := HT2.out.c1; have d2 := HT2.out.c2; have d3 := HT2.out.c3; have hl2 := HT2.out.lt))
              go_quiet (fail)
              go_wp2
              go_ret2
              exact ⟨ret_sb HF.out, HB2.out.alloc (by have := HB2.out.size; exact this) _ |>.grown (grown_drewN _ _ none) (by have := HB2.out.size; simp; omega) (fun k e => by cases e)⟩
            · have HF := Lib.hid (show false = decide ((some (k', s.data.toList, n') : Option (Int × List UInt8 × Int)) = some (k', s.data.toList, n)) by rw [decide_eq_false]; intro h; cases h; exact e3 rfl)
              go_enter Tryd.func41, Tryd.ntmps41
              go_wp2_with (first | (go_at_call 24; refine (HD.out _ HE0.out).mono ?_; rintro e w1 ⟨rfl, hb1⟩; rw [HI.out]; have HB1 := Lib.hid (below_call HB0.out hb1); have HT1 := Lib.hid (HT0.out.below hb1); have HE1 := Lib.hid (HE0.out.below hb1); clear hb1; have c0 := HT1.out.c0; have c1 := HT1.out.c1; have c2 := HT1.out.c2; have c3 := HT1.out.c3) | (go_at_call 55; refine (HT.out _ HE1.out.syms).mono ?_; rintro e w2 ⟨rfl, hb2⟩; have HB2 := Lib.hid (below_call HB1.out hb2); have HT2 := Lib.hid (HT1.out.below hb2); clear hb2; have d0 := HT2.out.c0; have d1 := HT2.out.c1; have d2 := HT2.out.c2; have d3 := HT2.out.c3; have hl2 := HT2.out.lt))
              go_quiet (fail)
              go_wp2
              go_ret2
              exact ⟨ret_sb HF.out, HB2.out.alloc (by have := HB2.out.size; exact this) _ |>.grown (grown_drewN _ _ none) (by have := HB2.out.size; simp; omega) (fun k e => by cases e)⟩
          · have HF := Lib.hid (show false = decide ((some (k', s', n') : Option (Int × List UInt8 × Int)) = some (k', s.data.toList, n)) by rw [decide_eq_false]; intro h; cases h; exact e2 rfl)
            have e2' : ¬ (strB s').toList = s.toList := toList_ne e2
            clear e2
            go_enter Tryd.func41, Tryd.ntmps41
            go_wp2_with (first | (go_at_call 24; refine (HD.out _ HE0.out).mono ?_; rintro e w1 ⟨rfl, hb1⟩; rw [HI.out]; have HB1 := Lib.hid (below_call HB0.out hb1); have HT1 := Lib.hid (HT0.out.below hb1); have HE1 := Lib.hid (HE0.out.below hb1); clear hb1; have c0 := HT1.out.c0; have c1 := HT1.out.c1; have c2 := HT1.out.c2; have c3 := HT1.out.c3) | (go_at_call 55; refine (HT.out _ HE1.out.syms).mono ?_; rintro e w2 ⟨rfl, hb2⟩; have HB2 := Lib.hid (below_call HB1.out hb2); have HT2 := Lib.hid (HT1.out.below hb2); clear hb2; have d0 := HT2.out.c0; have d1 := HT2.out.c1; have d2 := HT2.out.c2; have d3 := HT2.out.c3; have hl2 := HT2.out.lt))
            go_quiet (fail)
            go_wp2
            go_ret2
            exact ⟨ret_sb HF.out, HB2.out.alloc (by have := HB2.out.size; exact this) _ |>.grown (grown_drewN _ _ none) (by have := HB2.out.size; simp; omega) (fun k e => by cases e)⟩
        · have HF := Lib.hid (show false = decide ((some (k', s', n') : Option (Int × List UInt8 × Int)) = some (k, s.data.toList, n)) by rw [decide_eq_false]; intro h; cases h; exact e1 rfl)
          go_enter Tryd.func41, Tryd.ntmps41
          go_wp2_with (first | (go_at_call 24; refine (HD.out _ HE0.out).mono ?_; rintro e w1 ⟨rfl, hb1⟩; rw [HI.out]; have HB1 := Lib.hid (below_call HB0.out hb1); have HT1 := Lib.hid (HT0.out.below hb1); have HE1 := Lib.hid (HE0.out.below hb1); clear hb1; have c0 := HT1.out.c0; have c1 := HT1.out.c1; have c2 := HT1.out.c2; have c3 := HT1.out.c3) | (go_at_call 55; refine (HT.out _ HE1.out.syms).mono ?_; rintro e w2 ⟨rfl, hb2⟩; have HB2 := Lib.hid (below_call HB1.out hb2); have HT2 := Lib.hid (HT1.out.below hb2); clear hb2; have d0 := HT2.out.c0; have d1 := HT2.out.c1; have d2 := HT2.out.c2; have d3 := HT2.out.c3; have hl2 := HT2.out.lt))
          go_quiet (fail)
          go_wp2
          go_ret2
          exact ⟨ret_sb HF.out, HB2.out.alloc (by have := HB2.out.size; exact this) _ |>.grown (grown_drewN _ _ none) (by have := HB2.out.size; simp; omega) (fun k e => by cases e)⟩
    | false =>
      have hst : strB t = s := by
        have : ¬ k = 3 := by simpa using hb
        rw [ht]; unfold textS; rw [if_neg this]; rfl
      rw [hst] at HTok ⊢
      clear hst
      cases htk : tokS t with
      | none =>
        have HT : Hid (∀ w, Syms w → Calls Tryd.prog 55 #[.string s] w fun e w' => e = .returned (.tuple #[.agg #[.int .i64 0, .string ⟨#[]⟩, .int .i64 0, .int .i64 0], .bool false]) ∧ Below w.heap.size w w') := fun w h => (HTok.out w h).mono fun e w' h => ⟨by rw [h.1, htk]; rfl, h.2⟩
        have HF := Lib.hid (show false = decide ((none : Option (Int × List UInt8 × Int)) = some (k, s.data.toList, n)) by rw [decide_eq_false]; intro h; cases h)
        clear htk ht hv hts HTok
        go_enter Tryd.func41, Tryd.ntmps41
        go_wp2_with (first | (go_at_call 55; refine (HT.out _ HE0.out.syms).mono ?_; rintro e w2 ⟨rfl, hb2⟩; have HB2 := Lib.hid (below_call HB0.out hb2); have HT2 := Lib.hid (HT0.out.below hb2); clear hb2; have d0 := HT2.out.c0; have d1 := HT2.out.c1; have d2 := HT2.out.c2; have d3 := HT2.out.c3; have hl2 := HT2.out.lt))
        go_quiet (fail)
        go_wp2
        go_ret2
        exact ⟨ret_sb HF.out, HB2.out.alloc (by have := HB2.out.size; exact this) _ |>.grown (grown_drewN _ _ none) (by have := HB2.out.size; simp; omega) (fun k e => by cases e)⟩
      | some x =>
        obtain ⟨k', s', n'⟩ := x
        have HT : Hid (∀ w, Syms w → Calls Tryd.prog 55 #[.string s] w fun e w' => e = .returned (.tuple #[.agg #[.int .i64 k', .string (strB s'), .int .i64 n', .int .i64 0], .bool true]) ∧ Below w.heap.size w w') := fun w h => (HTok.out w h).mono fun e w' h => ⟨by rw [h.1, htk]; rfl, h.2⟩
        clear htk ht hv hts HTok
        by_cases e1 : k' = k
        · subst e1
          by_cases e2 : s' = s.data.toList
          · subst e2
            rw [strB_data] at HT
            by_cases e3 : n' = n
            · subst e3
              have HF := Lib.hid (show true = decide ((some (k', s.data.toList, n') : Option (Int × List UInt8 × Int)) = some (k', s.data.toList, n')) by simp)
              go_enter Tryd.func41, Tryd.ntmps41
              go_wp2_with (first | (go_at_call 55; refine (HT.out _ HE0.out.syms).mono ?_; rintro e w2 ⟨rfl, hb2⟩; have HB2 := Lib.hid (below_call HB0.out hb2); have HT2 := Lib.hid (HT0.out.below hb2); clear hb2; have d0 := HT2.out.c0; have d1 := HT2.out.c1; have d2 := HT2.out.c2; have d3 := HT2.out.c3; have hl2 := HT2.out.lt))
              go_quiet (fail)
              go_wp2
              go_ret2
              exact ⟨ret_sb HF.out, HB2.out.alloc (by have := HB2.out.size; exact this) _ |>.grown (grown_drewN _ _ none) (by have := HB2.out.size; simp; omega) (fun k e => by cases e)⟩
            · have HF := Lib.hid (show false = decide ((some (k', s.data.toList, n') : Option (Int × List UInt8 × Int)) = some (k', s.data.toList, n)) by rw [decide_eq_false]; intro h; cases h; exact e3 rfl)
              go_enter Tryd.func41, Tryd.ntmps41
              go_wp2_with (first | (go_at_call 55; refine (HT.out _ HE0.out.syms).mono ?_; rintro e w2 ⟨rfl, hb2⟩; have HB2 := Lib.hid (below_call HB0.out hb2); have HT2 := Lib.hid (HT0.out.below hb2); clear hb2; have d0 := HT2.out.c0; have d1 := HT2.out.c1; have d2 := HT2.out.c2; have d3 := HT2.out.c3; have hl2 := HT2.out.lt))
              go_quiet (fail)
              go_wp2
              go_ret2
              exact ⟨ret_sb HF.out, HB2.out.alloc (by have := HB2.out.size; exact this) _ |>.grown (grown_drewN _ _ none) (by have := HB2.out.size; simp; omega) (fun k e => by cases e)⟩
          · have HF := Lib.hid (show false = decide ((some (k', s', n') : Option (Int × List UInt8 × Int)) = some (k', s.data.toList, n)) by rw [decide_eq_false]; intro h; cases h; exact e2 rfl)
            have e2' : ¬ (strB s').toList = s.toList := toList_ne e2
            clear e2
            go_enter Tryd.func41, Tryd.ntmps41
            go_wp2_with (first | (go_at_call 55; refine (HT.out _ HE0.out.syms).mono ?_; rintro e w2 ⟨rfl, hb2⟩; have HB2 := Lib.hid (below_call HB0.out hb2); have HT2 := Lib.hid (HT0.out.below hb2); clear hb2; have d0 := HT2.out.c0; have d1 := HT2.out.c1; have d2 := HT2.out.c2; have d3 := HT2.out.c3; have hl2 := HT2.out.lt))
            go_quiet (fail)
            go_wp2
            go_ret2
            exact ⟨ret_sb HF.out, HB2.out.alloc (by have := HB2.out.size; exact this) _ |>.grown (grown_drewN _ _ none) (by have := HB2.out.size; simp; omega) (fun k e => by cases e)⟩
        · have HF := Lib.hid (show false = decide ((some (k', s', n') : Option (Int × List UInt8 × Int)) = some (k, s.data.toList, n)) by rw [decide_eq_false]; intro h; cases h; exact e1 rfl)
          go_enter Tryd.func41, Tryd.ntmps41
          go_wp2_with (first | (go_at_call 55; refine (HT.out _ HE0.out.syms).mono ?_; rintro e w2 ⟨rfl, hb2⟩; have HB2 := Lib.hid (below_call HB0.out hb2); have HT2 := Lib.hid (HT0.out.below hb2); clear hb2; have d0 := HT2.out.c0; have d1 := HT2.out.c1; have d2 := HT2.out.c2; have d3 := HT2.out.c3; have hl2 := HT2.out.lt))
          go_quiet (fail)
          go_wp2
          go_ret2
          exact ⟨ret_sb HF.out, HB2.out.alloc (by have := HB2.out.size; exact this) _ |>.grown (grown_drewN _ _ none) (by have := HB2.out.size; simp; omega) (fun k e => by cases e)⟩
  rw [hv]
  exact main _ rfl
end Go.Proofs.YtdnolbbkphgfiaaDoor
