/- The reference's Token. -/
import Derived.Test.YtdnolbbkphgfiaaDoorRefD
namespace Go.Proofs.YtdnolbbkphgfiaaDoor
open Go.RowKit

theorem res39 {tmps : Array Value} {w : World} {g : Nat} {k n pos : Int} {s : ByteArray} (h2 : tmps.getD 2 undef = .pointer (some ⟨g, 0, none⟩)) (_ : tmps.getD 2 undef = tmps.getD 2 undef) (h : TB w g k s n pos) :
    (results Tryd.f39 tmps).run Tryd.prog w = .ok (.agg #[.int .i64 k, .string s, .int .i64 n, .int .i64 pos]) w := by
  have c0 := h.c0
  have c1 := h.c1
  have c2 := h.c2
  have c3 := h.c3
  have h2' : tmps[2]?.getD undef = .pointer (some ⟨g, 0, none⟩) := by simpa using h2
  simp [results, Tryd.results39, go_sem, h2', c0, c1, c2, c3]
def rTok (k : Int) (s : ByteArray) (n : Int) : Ending := .returned (.agg #[.int .i64 k, .string s, .int .i64 n, .int .i64 0])

set_option maxRecDepth 100000 in
set_option maxHeartbeats 1000000 in
theorem rTok_var (s : ByteArray) (w : World)
    (H27 : Hid (∀ w, Calls Tryd.prog 27 #[.string s] w fun e w' => e = .returned (.bool true) ∧ Below w.heap.size w w')) :
    Calls Tryd.prog 39 #[.string s] w fun e w' => e = rTok (0) s 0 ∧ Below w.heap.size w w' := by
  have HN := Lib.hid (TB.new w 0 ⟨#[]⟩ 0 0)
  have HA := Lib.hid ((Below.refl w.heap.size w).alloc (Nat.le_refl _) (.cells #[.int .i64 0, .string ⟨#[]⟩, .int .i64 0, .int .i64 0] 43))
  go_enter Tryd.func39, Tryd.ntmps39
  go_wp2_with fail
  refine (H27.out _).mono ?_; rintro e w1 ⟨rfl, hb⟩
  have HB1 := Lib.hid (below_call HA.out hb)
  have HT1 := Lib.hid (HN.out.below hb)
  clear hb
  have c0 := HT1.out.c0
  have c1 := HT1.out.c1
  have c2 := HT1.out.c2
  have c3 := HT1.out.c3
  have f0 := HT1.out.fr 0
  have f1 := HT1.out.fr 1
  have f2 := HT1.out.fr 2
  have f3 := HT1.out.fr 3
  go_wp2_with fail
  exact bodyPost_ret (res39 rfl rfl (HT1.out.all (0) s 0 0)) rfl ⟨rfl, ball HB1.out (Nat.le_refl _) _ _ _ _⟩

set_option maxRecDepth 100000 in
set_option maxHeartbeats 1000000 in
theorem rTok_kw (s : ByteArray) (w : World)
    (H27 : Hid (∀ w, Calls Tryd.prog 27 #[.string s] w fun e w' => e = .returned (.bool false) ∧ Below w.heap.size w w'))
    (H31 : Hid (∀ (A : Option Addr) (c : Nat) (w : World), StrsAt w A kwList → Calls Tryd.prog 31 #[.slice A 25 c, .string s] w fun e w' => e = .returned (.bool true) ∧ w = w')) :
    Calls Tryd.prog 39 #[.string s] w fun e w' => e = rTok (1) s 0 ∧ Below w.heap.size w w' := by
  have HN := Lib.hid (TB.new w 0 ⟨#[]⟩ 0 0)
  have HA := Lib.hid ((Below.refl w.heap.size w).alloc (Nat.le_refl _) (.cells #[.int .i64 0, .string ⟨#[]⟩, .int .i64 0, .int .i64 0] 43))
  go_enter Tryd.func39, Tryd.ntmps39
  go_wp2_with fail
  refine (H27.out _).mono ?_; rintro e w1 ⟨rfl, hb⟩
  have HB1 := Lib.hid (below_call HA.out hb)
  have HT1 := Lib.hid (HN.out.below hb)
  clear hb
  go_wp2_with fail
  refine (Keywords_any _).mono ?_; rintro e w2 ⟨A, c, rfl, hL, hb⟩
  have HL := Lib.hid hL
  have HB2 := Lib.hid (below_call HB1.out hb)
  have HT2 := Lib.hid (HT1.out.below hb)
  clear hb hL HB1 HT1
  go_wp2_with fail
  refine (H31.out _ _ _ HL.out).mono ?_; rintro e w' ⟨rfl, rfl⟩
  have c0 := HT2.out.c0
  have c1 := HT2.out.c1
  have c2 := HT2.out.c2
  have c3 := HT2.out.c3
  have f0 := HT2.out.fr 0
  have f1 := HT2.out.fr 1
  have f2 := HT2.out.fr 2
  have f3 := HT2.out.fr 3
  go_wp2_with fail
  exact bodyPost_ret (res39 rfl rfl (HT2.out.all (1) s 0 0)) rfl ⟨rfl, ball HB2.out (Nat.le_refl _) _ _ _ _⟩

set_option maxRecDepth 100000 in
set_option maxHeartbeats 1000000 in
theorem rTok_upper (s : ByteArray) (w : World)
    (H27 : Hid (∀ w, Calls Tryd.prog 27 #[.string s] w fun e w' => e = .returned (.bool false) ∧ Below w.heap.size w w'))
    (H31 : Hid (∀ (A : Option Addr) (c : Nat) (w : World), StrsAt w A kwList → Calls Tryd.prog 31 #[.slice A 25 c, .string s] w fun e w' => e = .returned (.bool false) ∧ w = w'))
    (H29 : Hid (∀ w, Calls Tryd.prog 29 #[.string s] w fun e w' => e = .returned (.bool true) ∧ w = w')) :
    Calls Tryd.prog 39 #[.string s] w fun e w' => e = rTok (2) s 0 ∧ Below w.heap.size w w' := by
  have HN := Lib.hid (TB.new w 0 ⟨#[]⟩ 0 0)
  have HA := Lib.hid ((Below.refl w.heap.size w).alloc (Nat.le_refl _) (.cells #[.int .i64 0, .string ⟨#[]⟩, .int .i64 0, .int .i64 0] 43))
  go_enter Tryd.func39, Tryd.ntmps39
  go_wp2_with fail
  refine (H27.out _).mono ?_; rintro e w1 ⟨rfl, hb⟩
  have HB1 := Lib.hid (below_call HA.out hb)
  have HT1 := Lib.hid (HN.out.below hb)
  clear hb
  go_wp2_with fail
  refine (Keywords_any _).mono ?_; rintro e w2 ⟨A, c, rfl, hL, hb⟩
  have HL := Lib.hid hL
  have HB2 := Lib.hid (below_call HB1.out hb)
  have HT2 := Lib.hid (HT1.out.below hb)
  clear hb hL HB1 HT1
  go_wp2_with fail
  refine (H31.out _ _ _ HL.out).mono ?_; rintro e w' ⟨rfl, rfl⟩
  go_wp2_with fail
  refine (H29.out _).mono ?_; rintro e w' ⟨rfl, rfl⟩
  have c0 := HT2.out.c0
  have c1 := HT2.out.c1
  have c2 := HT2.out.c2
  have c3 := HT2.out.c3
  have f0 := HT2.out.fr 0
  have f1 := HT2.out.fr 1
  have f2 := HT2.out.fr 2
  have f3 := HT2.out.fr 3
  go_wp2_with fail
  exact bodyPost_ret (res39 rfl rfl (HT2.out.all (2) s 0 0)) rfl ⟨rfl, ball HB2.out (Nat.le_refl _) _ _ _ _⟩

set_option maxRecDepth 100000 in
set_option maxHeartbeats 1000000 in
theorem rTok_int (s : ByteArray) (n : Int) (hn : 0 ≤ n) (w : World)
    (H27 : Hid (∀ w, Calls Tryd.prog 27 #[.string s] w fun e w' => e = .returned (.bool false) ∧ Below w.heap.size w w'))
    (H31 : Hid (∀ (A : Option Addr) (c : Nat) (w : World), StrsAt w A kwList → Calls Tryd.prog 31 #[.slice A 25 c, .string s] w fun e w' => e = .returned (.bool false) ∧ w = w'))
    (H29 : Hid (∀ w, Calls Tryd.prog 29 #[.string s] w fun e w' => e = .returned (.bool false) ∧ w = w'))
    (H59 : Hid (∀ w, Calls Tryd.prog 59 #[.string s] w fun e w' => e = .returned (.int .i64 n) ∧ w = w')) :
    Calls Tryd.prog 39 #[.string s] w fun e w' => e = rTok (3) ⟨#[]⟩ n ∧ Below w.heap.size w w' := by
  have HN := Lib.hid (TB.new w 0 ⟨#[]⟩ 0 0)
  have HA := Lib.hid ((Below.refl w.heap.size w).alloc (Nat.le_refl _) (.cells #[.int .i64 0, .string ⟨#[]⟩, .int .i64 0, .int .i64 0] 43))
  go_enter Tryd.func39, Tryd.ntmps39
  go_wp2_with fail
  refine (H27.out _).mono ?_; rintro e w1 ⟨rfl, hb⟩
  have HB1 := Lib.hid (below_call HA.out hb)
  have HT1 := Lib.hid (HN.out.below hb)
  clear hb
  go_wp2_with fail
  refine (Keywords_any _).mono ?_; rintro e w2 ⟨A, c, rfl, hL, hb⟩
  have HL := Lib.hid hL
  have HB2 := Lib.hid (below_call HB1.out hb)
  have HT2 := Lib.hid (HT1.out.below hb)
  clear hb hL HB1 HT1
  go_wp2_with fail
  refine (H31.out _ _ _ HL.out).mono ?_; rintro e w' ⟨rfl, rfl⟩
  go_wp2_with fail
  refine (H29.out _).mono ?_; rintro e w' ⟨rfl, rfl⟩
  go_wp2_with fail
  refine (H59.out _).mono ?_; rintro e w' ⟨rfl, rfl⟩
  go_wp2_with fail
  refine (H59.out _).mono ?_; rintro e w' ⟨rfl, rfl⟩
  have c0 := HT2.out.c0
  have c1 := HT2.out.c1
  have c2 := HT2.out.c2
  have c3 := HT2.out.c3
  have f0 := HT2.out.fr 0
  have f1 := HT2.out.fr 1
  have f2 := HT2.out.fr 2
  have f3 := HT2.out.fr 3
  go_wp2_with fail
  exact bodyPost_ret (res39 rfl rfl (HT2.out.all (3) ⟨#[]⟩ n 0)) rfl ⟨rfl, ball HB2.out (Nat.le_refl _) _ _ _ _⟩

set_option maxRecDepth 100000 in
set_option maxHeartbeats 1000000 in
theorem rTok_sym (s : ByteArray) (w : World)
    (H27 : Hid (∀ w, Calls Tryd.prog 27 #[.string s] w fun e w' => e = .returned (.bool false) ∧ Below w.heap.size w w'))
    (H31 : Hid (∀ (A : Option Addr) (c : Nat) (w : World), StrsAt w A kwList → Calls Tryd.prog 31 #[.slice A 25 c, .string s] w fun e w' => e = .returned (.bool false) ∧ w = w'))
    (H29 : Hid (∀ w, Calls Tryd.prog 29 #[.string s] w fun e w' => e = .returned (.bool false) ∧ w = w'))
    (H59 : Hid (∀ w, Calls Tryd.prog 59 #[.string s] w fun e w' => e = .returned (.int .i64 (-1)) ∧ w = w'))
    (H31b : Hid (∀ (A : Option Addr) (c : Nat) (w : World), StrsAt w A symList2 → Calls Tryd.prog 31 #[.slice A 20 c, .string s] w fun e w' => e = .returned (.bool true) ∧ w = w')) :
    Calls Tryd.prog 39 #[.string s] w fun e w' => e = rTok (4) s 0 ∧ Below w.heap.size w w' := by
  have HN := Lib.hid (TB.new w 0 ⟨#[]⟩ 0 0)
  have HA := Lib.hid ((Below.refl w.heap.size w).alloc (Nat.le_refl _) (.cells #[.int .i64 0, .string ⟨#[]⟩, .int .i64 0, .int .i64 0] 43))
  go_enter Tryd.func39, Tryd.ntmps39
  go_wp2_with fail
  refine (H27.out _).mono ?_; rintro e w1 ⟨rfl, hb⟩
  have HB1 := Lib.hid (below_call HA.out hb)
  have HT1 := Lib.hid (HN.out.below hb)
  clear hb
  go_wp2_with fail
  refine (Keywords_any _).mono ?_; rintro e w2 ⟨A, c, rfl, hL, hb⟩
  have HL := Lib.hid hL
  have HB2 := Lib.hid (below_call HB1.out hb)
  have HT2 := Lib.hid (HT1.out.below hb)
  clear hb hL HB1 HT1
  go_wp2_with fail
  refine (H31.out _ _ _ HL.out).mono ?_; rintro e w' ⟨rfl, rfl⟩
  go_wp2_with fail
  refine (H29.out _).mono ?_; rintro e w' ⟨rfl, rfl⟩
  go_wp2_with fail
  refine (H59.out _).mono ?_; rintro e w' ⟨rfl, rfl⟩
  go_wp2_with fail
  refine (symbols_any _).mono ?_; rintro e w3 ⟨A2, c2, rfl, hL2, hb⟩
  have HL2 := Lib.hid hL2
  have HB3 := Lib.hid (below_call HB2.out hb)
  have HT3 := Lib.hid (HT2.out.below hb)
  clear hb hL2 HB2 HT2
  go_wp2_with fail
  refine (H31b.out _ _ _ HL2.out).mono ?_; rintro e w' ⟨rfl, rfl⟩
  have c0 := HT3.out.c0
  have c1 := HT3.out.c1
  have c2 := HT3.out.c2
  have c3 := HT3.out.c3
  have f0 := HT3.out.fr 0
  have f1 := HT3.out.fr 1
  have f2 := HT3.out.fr 2
  have f3 := HT3.out.fr 3
  go_wp2_with fail
  exact bodyPost_ret (res39 rfl rfl (HT3.out.all (4) s 0 0)) rfl ⟨rfl, ball HB3.out (Nat.le_refl _) _ _ _ _⟩

set_option maxRecDepth 100000 in
set_option maxHeartbeats 1000000 in
theorem rTok_none (s : ByteArray) (w : World)
    (H27 : Hid (∀ w, Calls Tryd.prog 27 #[.string s] w fun e w' => e = .returned (.bool false) ∧ Below w.heap.size w w'))
    (H31 : Hid (∀ (A : Option Addr) (c : Nat) (w : World), StrsAt w A kwList → Calls Tryd.prog 31 #[.slice A 25 c, .string s] w fun e w' => e = .returned (.bool false) ∧ w = w'))
    (H29 : Hid (∀ w, Calls Tryd.prog 29 #[.string s] w fun e w' => e = .returned (.bool false) ∧ w = w'))
    (H59 : Hid (∀ w, Calls Tryd.prog 59 #[.string s] w fun e w' => e = .returned (.int .i64 (-1)) ∧ w = w'))
    (H31b : Hid (∀ (A : Option Addr) (c : Nat) (w : World), StrsAt w A symList2 → Calls Tryd.prog 31 #[.slice A 20 c, .string s] w fun e w' => e = .returned (.bool false) ∧ w = w')) :
    Calls Tryd.prog 39 #[.string s] w fun e w' => e = rTok (-1) ⟨#[]⟩ 0 ∧ Below w.heap.size w w' := by
  have HN := Lib.hid (TB.new w 0 ⟨#[]⟩ 0 0)
  have HA := Lib.hid ((Below.refl w.heap.size w).alloc (Nat.le_refl _) (.cells #[.int .i64 0, .string ⟨#[]⟩, .int .i64 0, .int .i64 0] 43))
  go_enter Tryd.func39, Tryd.ntmps39
  go_wp2_with fail
  refine (H27.out _).mono ?_; rintro e w1 ⟨rfl, hb⟩
  have HB1 := Lib.hid (below_call HA.out hb)
  have HT1 := Lib.hid (HN.out.below hb)
  clear hb
  go_wp2_with fail
  refine (Keywords_any _).mono ?_; rintro e w2 ⟨A, c, rfl, hL, hb⟩
  have HL := Lib.hid hL
  have HB2 := Lib.hid (below_call HB1.out hb)
  have HT2 := Lib.hid (HT1.out.below hb)
  clear hb hL HB1 HT1
  go_wp2_with fail
  refine (H31.out _ _ _ HL.out).mono ?_; rintro e w' ⟨rfl, rfl⟩
  go_wp2_with fail
  refine (H29.out _).mono ?_; rintro e w' ⟨rfl, rfl⟩
  go_wp2_with fail
  refine (H59.out _).mono ?_; rintro e w' ⟨rfl, rfl⟩
  go_wp2_with fail
  refine (symbols_any _).mono ?_; rintro e w3 ⟨A2, c2, rfl, hL2, hb⟩
  have HL2 := Lib.hid hL2
  have HB3 := Lib.hid (below_call HB2.out hb)
  have HT3 := Lib.hid (HT2.out.below hb)
  clear hb hL2 HB2 HT2
  go_wp2_with fail
  refine (H31b.out _ _ _ HL2.out).mono ?_; rintro e w' ⟨rfl, rfl⟩
  have c0 := HT3.out.c0
  have c1 := HT3.out.c1
  have c2 := HT3.out.c2
  have c3 := HT3.out.c3
  have f0 := HT3.out.fr 0
  have f1 := HT3.out.fr 1
  have f2 := HT3.out.fr 2
  have f3 := HT3.out.fr 3
  go_wp2_with fail
  exact bodyPost_ret (res39 rfl rfl (HT3.out.all (-1) ⟨#[]⟩ 0 0)) rfl ⟨rfl, ball HB3.out (Nat.le_refl _) _ _ _ _⟩

/-- the reference's token of bytes -/
def rTokOf (o : Option (Int × List UInt8 × Int)) : Ending :=
  match o with
  | some (k, s, n) => rTok k (strB s) n
  | none => rTok (-1) ⟨#[]⟩ 0
theorem same_bool {f : Nat} {s : ByteArray} {r b : Bool} (h : ∀ w, Calls Tryd.prog f #[.string s] w fun e w' => e = .returned (.bool r) ∧ w = w') (e : r = b) : Hid (∀ w, Calls Tryd.prog f #[.string s] w fun e w' => e = .returned (.bool b) ∧ w = w') := by subst e; exact h
theorem below_bool {f : Nat} {s : ByteArray} {r b : Bool} (h : ∀ w, Calls Tryd.prog f #[.string s] w fun e w' => e = .returned (.bool r) ∧ Below w.heap.size w w') (e : r = b) : Hid (∀ w, Calls Tryd.prog f #[.string s] w fun e w' => e = .returned (.bool b) ∧ Below w.heap.size w w') := by subst e; exact h
theorem same_int {f : Nat} {s : ByteArray} {r b : Int} (h : ∀ w, Calls Tryd.prog f #[.string s] w fun e w' => e = .returned (.int .i64 r) ∧ w = w') (e : r = b) : Hid (∀ w, Calls Tryd.prog f #[.string s] w fun e w' => e = .returned (.int .i64 b) ∧ w = w') := by subst e; exact h
theorem list_bool {s : ByteArray} {L : List (List UInt8)} {n : Nat} {r b : Bool} (h : ∀ (A : Option Addr) (c : Nat) (w : World), StrsAt w A L → Calls Tryd.prog 31 #[.slice A n c, .string s] w fun e w' => e = .returned (.bool r) ∧ w = w') (e : r = b) : Hid (∀ (A : Option Addr) (c : Nat) (w : World), StrsAt w A L → Calls Tryd.prog 31 #[.slice A n c, .string s] w fun e w' => e = .returned (.bool b) ∧ w = w') := by subst e; exact h
theorem rToken_any (s : ByteArray) (w : World) (hs : s.size ≤ maxLen) :
    Calls Tryd.prog 39 #[.string s] w fun e w' => e = rTokOf (tokS s.data.toList) ∧ Below w.heap.size w w' := by
  have h27 := fun w => rIsVar_any s w hs
  have h29 := fun w => rIsUpper_any s w hs
  have h59 := fun w => rInteger_any s w hs
  have h31 := fun A c w h => HasKw A c s w h
  have h31b := fun A c w h => HasSym A c s w h
  have bf : ∀ {b : Bool}, ¬ b = true → b = false := fun {b} h => by cases b <;> simp_all
  by_cases hk : isKw s.data.toList = true
  · have hv : isV s.data.toList = false := by unfold isV; rw [hk]; simp
    rw [tok_kw hk]
    exact rTok_kw s w (below_bool h27 hv) (list_bool h31 hk)
  by_cases h2 : isNm 2 s.data.toList = true
  · have hv : isV s.data.toList = false := by unfold isV; rw [nm_excl h2]; rfl
    rw [tok_upper h2]
    exact rTok_upper s w (below_bool h27 hv) (list_bool h31 (bf hk)) (same_bool h29 h2)
  by_cases h1 : isNm 1 s.data.toList = true
  · have hv : isV s.data.toList = true := by unfold isV; rw [h1, bf hk]; rfl
    rw [tok_var h1 (bf hk)]
    exact rTok_var s w (below_bool h27 hv)
  have hv : isV s.data.toList = false := by unfold isV; rw [bf h1]; rfl
  cases hi : integerS s.data.toList with
  | some n =>
    have hn := (integerS_canon hi).2.1
    rw [show tokS s.data.toList = some (3, [], n) by unfold tokS; rw [hi]]
    exact rTok_int s n hn w (below_bool h27 hv) (list_bool h31 (bf hk)) (same_bool h29 (bf h2)) (same_int h59 (by rw [hi]; rfl))
  | none =>
    have ht := tok_none hi
    by_cases h3 : isSym s.data.toList = true
    · rw [ht, if_neg hk, if_neg h1, if_neg h2, if_pos h3]
      exact rTok_sym s w (below_bool h27 hv) (list_bool h31 (bf hk)) (same_bool h29 (bf h2)) (same_int h59 (by rw [hi]; rfl)) (list_bool h31b h3)
    · rw [ht, if_neg hk, if_neg h1, if_neg h2, if_neg h3]
      exact rTok_none s w (below_bool h27 hv) (list_bool h31 (bf hk)) (same_bool h29 (bf h2)) (same_int h59 (by rw [hi]; rfl)) (list_bool h31b (bf h3))
end Go.Proofs.YtdnolbbkphgfiaaDoor
