/- The law LexerClasses, walked. -/
import Derived.Test.YtdnolbbkphgfiaaDoorNum
import Derived.Test.YtdnolbbkphgfiaaDoorAwake
namespace Go.Proofs.YtdnolbbkphgfiaaDoor
open Go.RowKit

/-- a list of one token, its cells -/
theorem toks_one {w : World} {A : Option Addr} {t : Rt} (h : Toks w A [t]) : ∃ b off, A = some ⟨b, off, none⟩ ∧ w.cell? ⟨b, off, none⟩ = some (.int .i64 t.k) ∧ w.cell? ⟨b, off + 1, none⟩ = some (.string t.s) ∧ w.cell? ⟨b, off + 2, none⟩ = some (.int .i64 t.n) ∧ w.cell? ⟨b, off + 3, none⟩ = some (.int .i64 t.p) := by
  obtain ⟨b, off, e, _, hc⟩ := h (by simp)
  have := hc 0 t rfl
  simp only [Nat.zero_mul, Nat.add_zero] at this
  exact ⟨b, off, e, this⟩
theorem Lex_one (s : ByteArray) (k : Int) (x : List UInt8) (n : Int) (t : ByteArray) (hs : s.size ≤ maxLen) (h : lexS s.data.toList = ([⟨k, x, n, 0⟩], 0, 0)) (ht : strB x = t) (w : World) (hY : Syms w) :
    Calls Tryd.prog 14 #[.string s] w fun e w' => ∃ b off c, e = .returned (.tuple #[.slice (some ⟨b, off, none⟩) 1 c, .int .i64 0, .int .i64 0]) ∧ (w'.cell? ⟨b, off, none⟩ = some (.int .i64 k) ∧ w'.cell? ⟨b, off + 1, none⟩ = some (.string t) ∧ w'.cell? ⟨b, off + 2, none⟩ = some (.int .i64 n) ∧ w'.cell? ⟨b, off + 3, none⟩ = some (.int .i64 0)) ∧ Below w.heap.size w w' := by
  refine (Lex_is s _ 0 0 w hY hs h).mono ?_
  rintro e w' ⟨A, c, rfl, hT, hb⟩
  obtain ⟨b, off, rfl, h0, h1, h2, h3⟩ := toks_one hT
  subst ht
  exact ⟨b, off, c, rfl, ⟨h0, h1, h2, h3⟩, hb⟩

set_option maxRecDepth 100000 in
set_option maxHeartbeats 4000000 in
theorem classes_one (s : ByteArray) (n k : Int) (b1 b2 b3 : Bool) (hb : (b1 = true ∧ b2 = false ∧ b3 = false ∧ k = 0) ∨ (b1 = false ∧ b2 = true ∧ b3 = false ∧ k = 2) ∨ (b1 = false ∧ b2 = false ∧ b3 = true ∧ k = 1)) (w : World) (hn : 0 ≤ n ∧ n ≤ 4294967295) (hE : Env w)
    (H26 : Hid (∀ w, Calls Tryd.prog 26 #[.string s] w fun e w' => e = .returned (.bool b1) ∧ Below w.heap.size w w'))
    (H28 : Hid (∀ w, Calls Tryd.prog 28 #[.string s] w fun e w' => e = .returned (.bool b2) ∧ Below w.heap.size w w'))
    (H30 : Hid (∀ w, Calls Tryd.prog 30 #[.string s] w fun e w' => e = .returned (.bool b3) ∧ Below w.heap.size w w'))
    (HL : Hid (∀ w, Syms w → Calls Tryd.prog 14 #[.string s] w fun e w' => ∃ b off c, e = .returned (.tuple #[.slice (some ⟨b, off, none⟩) 1 c, .int .i64 0, .int .i64 0]) ∧ (w'.cell? ⟨b, off, none⟩ = some (.int .i64 k) ∧ w'.cell? ⟨b, off + 1, none⟩ = some (.string s) ∧ w'.cell? ⟨b, off + 2, none⟩ = some (.int .i64 0) ∧ w'.cell? ⟨b, off + 3, none⟩ = some (.int .i64 0)) ∧ Below w.heap.size w w')) :
    Calls Tryd.prog 13 #[.string s, .int .u32 n] w (Fin w) := by
  have HE := Lib.hid hE
  clear hE
  have hx : 0 ≤ n.tmod 1000000000 ∧ n.tmod 1000000000 ≤ 999999999 := by
    rw [Int.tmod_eq_emod_of_nonneg hn.1]; omega
  obtain ⟨x, ex⟩ : ∃ x, x = n.tmod 1000000000 := ⟨_, rfl⟩
  rw [← ex] at hx
  have ex' := ex.symm
  obtain ⟨hn1, hn2⟩ := hn
  have HD : Hid (∀ w, Env w → Calls Tryd.prog 24 #[.int .i64 x] w fun e w' => e = .returned (.string (strB (Lib.itoa x))) ∧ Below w.heap.size w w') := fun w h => Digits_any x w (by omega) h.2
  have hts : (strB (Lib.itoa x)).size ≤ maxLen := by have := itoa_sz x (by omega); unfold maxLen; omega
  have hlx : lexS (strB (Lib.itoa x)).data.toList = ([⟨3, [], x, 0⟩], 0, 0) := by
    have h := itoa_word hx
    rw [data_strB]
    refine lexS_word h.1 h.2 ?_ (tok_int hx)
    have := itoa_len x (by omega); omega
  have HX := Lib.hid (Lex_one (strB (Lib.itoa x)) 3 [] x ⟨#[]⟩ hts hlx rfl)
  obtain ⟨tx, htx⟩ : ∃ tx, tx = strB (Lib.itoa x) := ⟨_, rfl⟩
  rw [← htx] at HD HX
  clear hlx hts htx ex
  obtain ⟨hx1, hx2⟩ := hx
  rcases hb with ⟨rfl, rfl, rfl, rfl⟩ | ⟨rfl, rfl, rfl, rfl⟩ | ⟨rfl, rfl, rfl, rfl⟩
  all_goals
    go_enter Tryd.func13, Tryd.ntmps13
    go_wp2_with fail
    refine (H26.out _).mono ?_; rintro e w1 ⟨rfl, hb⟩
    have HB1 := Lib.hid hb
    clear hb
    go_wp2_with fail
    refine (H28.out _).mono ?_; rintro e w2 ⟨rfl, hb⟩
    have HB2 := Lib.hid (below_call HB1.out hb)
    clear hb HB1
    go_wp2_with fail
    refine (H30.out _).mono ?_; rintro e w3 ⟨rfl, hb⟩
    have HB3 := Lib.hid (below_call HB2.out hb)
    clear hb HB2
    go_wp2_with fail
    refine (HL.out _ (HE.out.below HB3.out).syms).mono ?_; rintro e w4 ⟨b, off, c, rfl, ⟨c0, c1, c2, c3⟩, hb⟩
    have HB4 := Lib.hid (below_call HB3.out hb)
    clear hb HB3
    go_wp2_with fail
    refine (HD.out _ (HE.out.below HB4.out)).mono ?_; rintro e w5 ⟨rfl, hb⟩
    have HB5 := Lib.hid (below_call HB4.out hb)
    clear hb HB4 c0 c1 c2 c3
    go_wp2_with fail
    refine (HX.out _ (HE.out.below HB5.out).syms).mono ?_; rintro e w6 ⟨b', off', c', rfl, ⟨d0, d1, d2, d3⟩, hb⟩
    have HB6 := Lib.hid (below_call HB5.out hb)
    clear hb HB5
    go_wp2_with fail
    refine (Awake_any w6 (HE.out.below HB6.out)).mono ?_
    rintro e w7 ⟨rfl, hb⟩
    have HB7 := Lib.hid (below_call HB6.out hb)
    clear hb HB6
    go_wp2_with fail
    go_ret
    exact ⟨rfl, HB7.out⟩

set_option maxRecDepth 100000 in
set_option maxHeartbeats 4000000 in
theorem classes_none (s : ByteArray) (n a : Int) (N : Nat) (er : Int) (hz : ((er == 0) = false) ∨ (er = 0 ∧ ((N : Int) == 1) = false)) (w : World) (hn : 0 ≤ n ∧ n ≤ 4294967295) (hE : Env w)
    (H26 : Hid (∀ w, Calls Tryd.prog 26 #[.string s] w fun e w' => e = .returned (.bool false) ∧ Below w.heap.size w w'))
    (H28 : Hid (∀ w, Calls Tryd.prog 28 #[.string s] w fun e w' => e = .returned (.bool false) ∧ Below w.heap.size w w'))
    (H30 : Hid (∀ w, Calls Tryd.prog 30 #[.string s] w fun e w' => e = .returned (.bool false) ∧ Below w.heap.size w w'))
    (HL : Hid (∀ w, Syms w → Calls Tryd.prog 14 #[.string s] w fun e w' => ∃ A c, e = .returned (.tuple #[.slice A N c, .int .i64 a, .int .i64 er]) ∧ Below w.heap.size w w')) :
    Calls Tryd.prog 13 #[.string s, .int .u32 n] w (Fin w) := by
  have HE := Lib.hid hE
  clear hE
  have hx : 0 ≤ n.tmod 1000000000 ∧ n.tmod 1000000000 ≤ 999999999 := by
    rw [Int.tmod_eq_emod_of_nonneg hn.1]; omega
  obtain ⟨x, ex⟩ : ∃ x, x = n.tmod 1000000000 := ⟨_, rfl⟩
  rw [← ex] at hx
  have ex' := ex.symm
  obtain ⟨hn1, hn2⟩ := hn
  have HD : Hid (∀ w, Env w → Calls Tryd.prog 24 #[.int .i64 x] w fun e w' => e = .returned (.string (strB (Lib.itoa x))) ∧ Below w.heap.size w w') := fun w h => Digits_any x w (by omega) h.2
  have hts : (strB (Lib.itoa x)).size ≤ maxLen := by have := itoa_sz x (by omega); unfold maxLen; omega
  have hlx : lexS (strB (Lib.itoa x)).data.toList = ([⟨3, [], x, 0⟩], 0, 0) := by
    have h := itoa_word hx
    rw [data_strB]
    refine lexS_word h.1 h.2 ?_ (tok_int hx)
    have := itoa_len x (by omega); omega
  have HX := Lib.hid (Lex_one (strB (Lib.itoa x)) 3 [] x ⟨#[]⟩ hts hlx rfl)
  obtain ⟨tx, htx⟩ : ∃ tx, tx = strB (Lib.itoa x) := ⟨_, rfl⟩
  rw [← htx] at HD HX
  clear hlx hts htx ex
  obtain ⟨hx1, hx2⟩ := hx
  rcases hz with hz | ⟨rfl, hz⟩
  all_goals
    go_enter Tryd.func13, Tryd.ntmps13
    go_wp2_with fail
    refine (H26.out _).mono ?_; rintro e w1 ⟨rfl, hb⟩
    have HB1 := Lib.hid hb
    clear hb
    go_wp2_with fail
    refine (H28.out _).mono ?_; rintro e w2 ⟨rfl, hb⟩
    have HB2 := Lib.hid (below_call HB1.out hb)
    clear hb HB1
    go_wp2_with fail
    refine (H30.out _).mono ?_; rintro e w3 ⟨rfl, hb⟩
    have HB3 := Lib.hid (below_call HB2.out hb)
    clear hb HB2
    go_wp2_with fail
    refine (HL.out _ (HE.out.below HB3.out).syms).mono ?_; rintro e w4 ⟨A, c, rfl, hb⟩
    have HB4 := Lib.hid (below_call HB3.out hb)
    clear hb HB3
    go_wp2_with fail
    refine (HD.out _ (HE.out.below HB4.out)).mono ?_; rintro e w5 ⟨rfl, hb⟩
    have HB5 := Lib.hid (below_call HB4.out hb)
    clear hb HB4
    go_wp2_with fail
    refine (HX.out _ (HE.out.below HB5.out).syms).mono ?_; rintro e w6 ⟨b', off', c', rfl, ⟨d0, d1, d2, d3⟩, hb⟩
    have HB6 := Lib.hid (below_call HB5.out hb)
    clear hb HB5
    go_wp2_with fail
    refine (Awake_any w6 (HE.out.below HB6.out)).mono ?_
    rintro e w7 ⟨rfl, hb⟩
    have HB7 := Lib.hid (below_call HB6.out hb)
    clear hb HB6
    go_wp2_with fail
    go_ret
    exact ⟨rfl, HB7.out⟩

set_option maxRecDepth 100000 in
set_option maxHeartbeats 4000000 in
theorem classes_single (s : ByteArray) (n k m : Int) (t : ByteArray) (bi : Bool) (hi : (decide (0 ≤ k) && decide (k ≤ 2)) = bi) (hz : bi = true → (t.toList == s.toList) = false) (w : World) (hn : 0 ≤ n ∧ n ≤ 4294967295) (hE : Env w)
    (H26 : Hid (∀ w, Calls Tryd.prog 26 #[.string s] w fun e w' => e = .returned (.bool false) ∧ Below w.heap.size w w'))
    (H28 : Hid (∀ w, Calls Tryd.prog 28 #[.string s] w fun e w' => e = .returned (.bool false) ∧ Below w.heap.size w w'))
    (H30 : Hid (∀ w, Calls Tryd.prog 30 #[.string s] w fun e w' => e = .returned (.bool false) ∧ Below w.heap.size w w'))
    (HL : Hid (∀ w, Syms w → Calls Tryd.prog 14 #[.string s] w fun e w' => ∃ b off c p, e = .returned (.tuple #[.slice (some ⟨b, off, none⟩) 1 c, .int .i64 0, .int .i64 0]) ∧ (w'.cell? ⟨b, off, none⟩ = some (.int .i64 k) ∧ w'.cell? ⟨b, off + 1, none⟩ = some (.string t) ∧ w'.cell? ⟨b, off + 2, none⟩ = some (.int .i64 m) ∧ w'.cell? ⟨b, off + 3, none⟩ = some (.int .i64 p)) ∧ Below w.heap.size w w')) :
    Calls Tryd.prog 13 #[.string s, .int .u32 n] w (Fin w) := by
  have HE := Lib.hid hE
  clear hE
  have hx : 0 ≤ n.tmod 1000000000 ∧ n.tmod 1000000000 ≤ 999999999 := by
    rw [Int.tmod_eq_emod_of_nonneg hn.1]; omega
  obtain ⟨x, ex⟩ : ∃ x, x = n.tmod 1000000000 := ⟨_, rfl⟩
  rw [← ex] at hx
  have ex' := ex.symm
  obtain ⟨hn1, hn2⟩ := hn
  have HD : Hid (∀ w, Env w → Calls Tryd.prog 24 #[.int .i64 x] w fun e w' => e = .returned (.string (strB (Lib.itoa x))) ∧ Below w.heap.size w w') := fun w h => Digits_any x w (by omega) h.2
  have hts : (strB (Lib.itoa x)).size ≤ maxLen := by have := itoa_sz x (by omega); unfold maxLen; omega
  have hlx : lexS (strB (Lib.itoa x)).data.toList = ([⟨3, [], x, 0⟩], 0, 0) := by
    have h := itoa_word hx
    rw [data_strB]
    refine lexS_word h.1 h.2 ?_ (tok_int hx)
    have := itoa_len x (by omega); omega
  have HX := Lib.hid (Lex_one (strB (Lib.itoa x)) 3 [] x ⟨#[]⟩ hts hlx rfl)
  obtain ⟨tx, htx⟩ : ∃ tx, tx = strB (Lib.itoa x) := ⟨_, rfl⟩
  rw [← htx] at HD HX
  clear hlx hts htx ex
  obtain ⟨hx1, hx2⟩ := hx
  have HI : Hid (∀ w, Calls Tryd.prog 34 #[.int .i64 k, .int .i64 0, .int .i64 2] w fun e w' => e = .returned (.bool bi) ∧ w = w') := fun w => (In_any _ _ _ w).mono fun e w' h => ⟨by rw [h.1, hi], h.2⟩
  clear hi
  cases bi
  all_goals
    try have hz' := hz rfl
    clear hz
    go_enter Tryd.func13, Tryd.ntmps13
    go_wp2_with fail
    refine (H26.out _).mono ?_; rintro e w1 ⟨rfl, hb⟩
    have HB1 := Lib.hid hb
    clear hb
    go_wp2_with fail
    refine (H28.out _).mono ?_; rintro e w2 ⟨rfl, hb⟩
    have HB2 := Lib.hid (below_call HB1.out hb)
    clear hb HB1
    go_wp2_with fail
    refine (H30.out _).mono ?_; rintro e w3 ⟨rfl, hb⟩
    have HB3 := Lib.hid (below_call HB2.out hb)
    clear hb HB2
    go_wp2_with fail
    refine (HL.out _ (HE.out.below HB3.out).syms).mono ?_; rintro e w4 ⟨b, off, c, p, rfl, ⟨c0, c1, c2, c3⟩, hb⟩
    have HB4 := Lib.hid (below_call HB3.out hb)
    clear hb HB3
    go_wp2_with fail
    refine (HI.out _).mono ?_; rintro e w' ⟨rfl, rfl⟩
    go_wp2_with fail
    refine (HD.out _ (HE.out.below HB4.out)).mono ?_; rintro e w5 ⟨rfl, hb⟩
    have HB5 := Lib.hid (below_call HB4.out hb)
    clear hb HB4 c0 c1 c2 c3
    go_wp2_with fail
    refine (HX.out _ (HE.out.below HB5.out).syms).mono ?_; rintro e w6 ⟨b', off', c', rfl, ⟨d0, d1, d2, d3⟩, hb⟩
    have HB6 := Lib.hid (below_call HB5.out hb)
    clear hb HB5
    go_wp2_with fail
    refine (Awake_any w6 (HE.out.below HB6.out)).mono ?_
    rintro e w7 ⟨rfl, hb⟩
    have HB7 := Lib.hid (below_call HB6.out hb)
    clear hb HB6
    go_wp2_with fail
    go_ret
    exact ⟨rfl, HB7.out⟩

theorem calls_bool {f : Nat} {s : ByteArray} {r b : Bool} (h : ∀ w, Calls Tryd.prog f #[.string s] w fun e w' => e = .returned (.bool r) ∧ Below w.heap.size w w') (e : r = b) : Hid (∀ w, Calls Tryd.prog f #[.string s] w fun e w' => e = .returned (.bool b) ∧ Below w.heap.size w w') := by subst e; exact h
theorem lexS_ok {l : List UInt8} {xs : List Tk} {a : Int} (h : lexS l = (xs, a, 0)) : a = 0 := by
  unfold lexS at h
  split at h
  · injection h with _ h; injection h with h1 h2; cases h2
  · split at h
    · injection h with _ h; injection h with h1 h2; cases h2
    · injection h with _ h; injection h with h1 h2; exact h1.symm
theorem bool_false {b : Bool} (h : ¬ b = true) : b = false := by cases b <;> simp_all

theorem classes_walk (s : ByteArray) (n : Int) (w : World) (hs : s.size ≤ maxLen) (hn : 0 ≤ n ∧ n ≤ 4294967295) (hE : Env w) :
    Calls Tryd.prog 13 #[.string s, .int .u32 n] w (Fin w) := by
  have h26 := fun w => IsVar_any s w hs
  have h28 := fun w => IsUpper_any s w hs
  have h30 := fun w => Keyword_any s w hs
  have word : ∀ (f : Int) (k : Int), isNm f s.data.toList = true → tokS s.data.toList = some (k, s.data.toList, 0) → lexS s.data.toList = ([⟨k, s.data.toList, 0, 0⟩], 0, 0) := fun f k hf ht => by
    obtain ⟨h1, h2, h3, _⟩ := isNm_all hf
    exact lexS_word h1 h2 (by omega) ht
  by_cases hk : isKw s.data.toList = true
  · have h1 := isKw_nm hk
    have h2 : isNm 2 s.data.toList = false := bool_false fun h => by rw [nm_excl h] at h1; cases h1
    have hv : isV s.data.toList = false := by unfold isV; rw [hk]; simp
    exact classes_one s n 1 false false true (.inr (.inr ⟨rfl, rfl, rfl, rfl⟩)) w hn hE (calls_bool h26 hv) (calls_bool h28 h2) (calls_bool h30 hk)
      (Lex_one s 1 _ 0 s hs (word 1 1 h1 (tok_kw hk)) rfl)
  by_cases h2 : isNm 2 s.data.toList = true
  · have h1 := nm_excl h2
    have hv : isV s.data.toList = false := by unfold isV; rw [h1]; rfl
    exact classes_one s n 2 false true false (.inr (.inl ⟨rfl, rfl, rfl, rfl⟩)) w hn hE (calls_bool h26 hv) (calls_bool h28 h2) (calls_bool h30 (bool_false hk))
      (Lex_one s 2 _ 0 s hs (word 2 2 h2 (tok_upper h2)) rfl)
  by_cases h1 : isNm 1 s.data.toList = true
  · have hv : isV s.data.toList = true := by unfold isV; rw [h1, bool_false hk]; rfl
    exact classes_one s n 0 true false false (.inl ⟨rfl, rfl, rfl, rfl⟩) w hn hE (calls_bool h26 hv) (calls_bool h28 (bool_false h2)) (calls_bool h30 (bool_false hk))
      (Lex_one s 0 _ 0 s hs (word 1 0 h1 (tok_var h1 (bool_false hk))) rfl)
  have hv : isV s.data.toList = false := by unfold isV; rw [bool_false h1]; rfl
  obtain ⟨xs, a, er, hx⟩ : ∃ xs a er, lexS s.data.toList = (xs, a, er) := ⟨_, _, _, rfl⟩
  have HL := fun w hY => Lex_is s xs a er w hY hs hx
  by_cases he : er = 0
  · subst he
    have ha := lexS_ok hx
    subst ha
    match xs, hx, HL with
    | [t], hx, HL =>
      obtain ⟨p, hp⟩ := lexS_mem hx (t := t) (by simp)
      refine classes_single s n t.kind t.n (strB t.s) _ rfl (fun hb => ?_) w hn hE (calls_bool h26 hv) (calls_bool h28 (bool_false h2)) (calls_bool h30 (bool_false hk)) (fun w hY => (HL w hY).mono fun e w' h => ?_)
      · simp only [Bool.and_eq_true, decide_eq_true_eq] at hb
        rw [ByteArray.toList_eq, ByteArray.toList_eq, data_strB, beq_eq_false_iff_ne]
        intro e
        rcases tokS_class hp with ⟨h3, _⟩ | ⟨h3, _, h4⟩
        · omega
        · rw [e] at h3
          rw [← h3] at h4
          rcases h4 with ⟨_, h4⟩ | ⟨_, h4, _⟩ | ⟨_, h4⟩ | ⟨h4, _⟩
          · exact hk h4
          · exact h1 h4
          · exact h2 h4
          · omega
      · obtain ⟨A, c, h4, hT, hb⟩ := h
        obtain ⟨b, off, rfl, c0, c1, c2, c3⟩ := toks_one hT
        exact ⟨b, off, c, _, h4, ⟨c0, c1, c2, c3⟩, hb⟩
    | [], hx, HL => exact classes_none s n 0 0 0 (.inr ⟨rfl, by decide⟩) w hn hE (calls_bool h26 hv) (calls_bool h28 (bool_false h2)) (calls_bool h30 (bool_false hk)) (fun w hY => (HL w hY).mono fun e w' ⟨A, c, h4, _, hb⟩ => ⟨A, c, h4, hb⟩)
    | t :: u :: r, hx, HL => exact classes_none s n 0 (t :: u :: r).length 0 (.inr ⟨rfl, by rw [beq_eq_false_iff_ne]; simp only [List.length_cons]; omega⟩) w hn hE (calls_bool h26 hv) (calls_bool h28 (bool_false h2)) (calls_bool h30 (bool_false hk)) (fun w hY => (HL w hY).mono fun e w' ⟨A, c, h4, _, hb⟩ => ⟨A, c, h4, hb⟩)
  · exact classes_none s n a xs.length er (.inl (by rw [beq_eq_false_iff_ne]; exact he)) w hn hE (calls_bool h26 hv) (calls_bool h28 (bool_false h2)) (calls_bool h30 (bool_false hk)) (fun w hY => (HL w hY).mono fun e w' ⟨A, c, h4, _, hb⟩ => ⟨A, c, h4, hb⟩)
end Go.Proofs.YtdnolbbkphgfiaaDoor
