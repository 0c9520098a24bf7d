/- The law LexerParts, walked. -/
import Derived.Test.YtdnolbbkphgfiaaDoorAlike
namespace Go.Proofs.YtdnolbbkphgfiaaDoor
open Go.RowKit

theorem toks_take {w : World} {A : Option Addr} {xs ys : List Rt} (h : Toks w A (xs ++ ys)) : Toks w A xs := fun h0 => by
  obtain ⟨b, off, e, hl, hc⟩ := h (by rw [List.length_append]; omega)
  exact ⟨b, off, e, hl, fun j t hj => hc j t (by rw [List.getElem?_append_left (List.getElem?_eq_some_iff.1 hj).1]; exact hj)⟩
theorem Same_n (A B : Option Addr) (c d n : Nat) (xs : List Tk) (w : World) (hA : Toks w A (xs.map rt)) (hB : Toks w B (xs.map rt)) (hn : xs.length = n) (hl : n ≤ 1000000) :
    Calls Tryd.prog 16 #[.slice A n c, .slice B n d] w fun e w' => e = .returned (.bool true) ∧ Below w.heap.size w w' := by
  subst hn; exact Same_toks A B c d xs w hA hB hl

set_option maxRecDepth 100000 in
set_option maxHeartbeats 1000000 in
/-- a text that is refused at a byte -/
theorem parts_cut (s t : ByteArray) (w : World) (hs : s.size ≤ 281474976710656) (hE : Env w) (xs : List Tk) (x : Int) (hx : lexS s.data.toList = (xs, x, 2)) :
    Calls Tryd.prog 11 #[.string s, .string t] w (Fin w) := by
  obtain ⟨k, ys, rfl, hk, hl, hy⟩ := lexS_cut hx
  rw [len_data] at hk hl
  have H1 := Lib.hid (fun w hY => Lex_is s xs _ 2 w hY (by unfold maxLen; omega) hx)
  have hsz : (s.extract 0 k).size = k := by rw [ByteArray.size_extract]; omega
  have hy' : lexS (s.extract 0 k).data.toList = (ys, 0, 0) := by
    rw [Lib.extract_data, List.drop_zero, Nat.sub_zero]; exact hy
  have H2 := Lib.hid (fun w hY => Lex_is (s.extract 0 k) ys 0 0 w hY (by unfold maxLen; omega) hy')
  have HE := Lib.hid hE
  clear hE hx hy hy' hsz
  have HI : Hid (∀ w, Calls Tryd.prog 34 #[.int .i64 (k : Int), .int .i64 0, .int .i64 ((s.size : Int) - 1)] w fun e w' => e = .returned (.bool true) ∧ w = w') := fun w => (In_any _ _ _ w).mono fun e w' h => ⟨by rw [h.1]; apply ret_bool; rw [decide_eq_true (by omega), decide_eq_true (by omega)]; rfl, h.2⟩
  go_enter Tryd.func11, Tryd.ntmps11
  go_wp2_with fail
  refine (H1.out _ HE.out.syms).mono ?_; rintro e w1 ⟨A, c, rfl, hT, hb⟩
  have HB1 := Lib.hid hb
  clear hT hb H1
  go_wp2_with fail
  refine (HI.out _).mono ?_; rintro e w' ⟨rfl, rfl⟩
  go_wp2_with fail
  refine (H2.out _ (HE.out.below HB1.out).syms).mono ?_; rintro e w2 ⟨B, d, rfl, hT, hb⟩
  have HB2 := Lib.hid (below_call HB1.out hb)
  clear hT hb HB1
  go_wp2_with fail
  refine (Awake_any _ (HE.out.below HB2.out)).mono ?_; rintro e w4 ⟨rfl, hb⟩
  have HB4 := Lib.hid (below_call HB2.out hb)
  clear hb
  go_wp2_with fail
  go_ret
  exact ⟨rfl, HB4.out⟩

set_option maxRecDepth 100000 in
set_option maxHeartbeats 1000000 in
/-- texts of which nothing is said -/
theorem parts_none (s t : ByteArray) (w : World) (hs : s.size ≤ 281474976710656) (ht : t.size ≤ 281474976710656) (hE : Env w) (xs ys : List Tk) (x y er fr : Int) (hx : lexS s.data.toList = (xs, x, er)) (hy : lexS t.data.toList = (ys, y, fr)) (h2 : (er == 2) = false)
    (h : ((er == 0) = false ∧ (er != 0) = true) ∨ (er = 0 ∧ (fr == 0) = false ∧ (fr != 0) = true) ∨ (er = 0 ∧ fr = 0 ∧ decide ((30000 : Int) < (s.size : Int) + 1 + (t.size : Int)) = true)) :
    Calls Tryd.prog 11 #[.string s, .string t] w (Fin w) := by
  have H1 := Lib.hid (fun w hY => Lex_is s xs x er w hY (by unfold maxLen; omega) hx)
  have H2 := Lib.hid (fun w hY => Lex_is t ys y fr w hY (by unfold maxLen; omega) hy)
  have HE := Lib.hid hE
  clear hE hx hy
  rcases h with ⟨h3, h4⟩ | ⟨rfl, h3, h4⟩ | ⟨rfl, rfl, h3⟩
  all_goals
    go_enter Tryd.func11, Tryd.ntmps11
    go_wp2_with fail
    refine (H1.out _ HE.out.syms).mono ?_; rintro e w1 ⟨A, c, rfl, hT, hb⟩
    have HB1 := Lib.hid hb
    clear hT hb H1
    go_wp2_with fail
    refine (H2.out _ (HE.out.below HB1.out).syms).mono ?_; rintro e w2 ⟨B, d, rfl, hT, hb⟩
    have HB2 := Lib.hid (below_call HB1.out hb)
    clear hT hb HB1
    go_wp2_with fail
    refine (Awake_any _ (HE.out.below HB2.out)).mono ?_; rintro e w4 ⟨rfl, hb⟩
    have HB4 := Lib.hid (below_call HB2.out hb)
    clear hb
    go_wp2_with fail
    go_ret
    exact ⟨rfl, HB4.out⟩

set_option maxRecDepth 100000 in
set_option maxHeartbeats 2000000 in
/-- two texts that are accepted -/
theorem parts_both (s t : ByteArray) (w : World) (hE : Env w) (xs ys : List Tk) (hx : lexS s.data.toList = (xs, 0, 0)) (hy : lexS t.data.toList = (ys, 0, 0)) (hsz : s.size + 1 + t.size ≤ 30000) :
    Calls Tryd.prog 11 #[.string s, .string t] w (Fin w) := by
  obtain ⟨zs, hzs⟩ : ∃ zs, zs = xs ++ ys.map (shift (s.size + 1)) := ⟨_, rfl⟩
  have hz : lexS (s ++ (⟨#[10]⟩ : ByteArray) ++ t).data.toList = (zs, 0, 0) := by
    rw [cat_data, cat_data, List.append_assoc, hzs, ← len_data]
    exact lexS_app hx hy (by show s.data.toList.length + 1 + t.data.toList.length ≤ 30000; rw [len_data, len_data]; exact hsz)
  have hzl : (s ++ (⟨#[10]⟩ : ByteArray) ++ t).size ≤ maxLen := by
    rw [← len_data, cat_data, cat_data]
    simp only [List.length_append, List.length_cons, List.length_nil, len_data]
    unfold maxLen; omega
  obtain ⟨nx, hnx⟩ : ∃ nx, xs.length = nx := ⟨_, rfl⟩
  obtain ⟨ny, hny⟩ : ∃ ny, ys.length = ny := ⟨_, rfl⟩
  have hnz : zs.length = nx + ny := by rw [hzs, List.length_append, List.length_map, hnx, hny]
  have lx : nx ≤ 30001 := by have := lexS_len s.data.toList; rw [hx] at this; exact hnx ▸ this
  have ly : ny ≤ 30001 := by have := lexS_len t.data.toList; rw [hy] at this; exact hny ▸ this
  have H1 := Lib.hid (fun w hY => Lex_cap s xs 0 0 nx w hY (by unfold maxLen; omega) hx hnx)
  have H2 := Lib.hid (fun w hY => Lex_cap t ys 0 0 ny w hY (by unfold maxLen; omega) hy hny)
  have H3 := Lib.hid (fun w hY => Lex_cap (s ++ (⟨#[10]⟩ : ByteArray) ++ t) zs 0 0 (nx + ny) w hY hzl hz hnz)
  have HP := Lib.hid (lexS_pos hy)
  have HZ := Lib.hid hzs
  have HNX := Lib.hid hnx
  have HNY := Lib.hid hny
  have HE := Lib.hid hE
  have i2 : (s.size : Int) + 1 + (t.size : Int) ≤ 30000 := by omega
  have i3 : ((nx : Int) + (ny : Int) == (nx : Int) + (ny : Int)) = true := by rw [beq_iff_eq]
  clear hE hx hy hz hzl hzs hnx hny hnz
  go_enter Tryd.func11, Tryd.ntmps11
  go_wp2_with fail
  refine (H1.out _ HE.out.syms).mono ?_; rintro e w1 ⟨A, c, rfl, hc, hT, hb⟩
  have HT1 := Lib.hid hT
  have HB1 := Lib.hid hb
  clear hT hb H1
  go_wp2_with fail
  refine (H2.out _ (HE.out.below HB1.out).syms).mono ?_; rintro e w2 ⟨B, d, rfl, hd, hT, hb⟩
  have HT2 := Lib.hid (HT1.out.below hb)
  have HU2 := Lib.hid hT
  have HB2 := Lib.hid (below_call HB1.out hb)
  clear hT hb HT1 HB1 H2
  go_wp2_with fail
  refine (H3.out _ (HE.out.below HB2.out).syms).mono ?_; rintro e w3 ⟨C, f, rfl, hf, hT, hb⟩
  have HT3 := Lib.hid (HT2.out.below hb)
  have HU3 := Lib.hid (HU2.out.below hb)
  have HV3 := Lib.hid hT
  have HB3 := Lib.hid (below_call HB2.out hb)
  clear hT hb HT2 HU2 HB2 H3
  go_wp2_with fail
  go_loopw [17] (fun i wr => ∃ k : Nat, k ≤ ny ∧ i = .int .i64 (k : Int) ∧ Hid (Toks wr A (xs.map rt)) ∧ Hid (Toks wr B (ys.map rt)) ∧ Hid (Toks wr C (zs.map rt)) ∧ Hid (Below w.heap.size w wr)) (fun i _ => ny - (intOf i).toNat)
  case atStart => exact ⟨0, by omega, rfl, HT3, HU3, HV3, HB3⟩
  case round =>
    clear HT3 HU3 HV3 HB3
    obtain ⟨k, hk, rfl, HT, HU, HV, HB⟩ := hrel
    by_cases hlt : k < ny
    · have l1 : k < ys.length := by have := HNY.out; omega
      obtain ⟨y, hy⟩ : ∃ y, y = ys[k] := ⟨_, rfl⟩
      have hp : y.pos ≤ 30000 := HP.out y (by rw [hy]; exact List.getElem_mem l1)
      obtain ⟨b, off, rfl, hbl, hcells⟩ := HU.out (by rw [List.length_map]; omega)
      obtain ⟨d0, d1, d2, d3⟩ := hcells k (rt y) (by rw [List.getElem?_map, List.getElem?_eq_getElem l1, ← hy]; rfl)
      obtain ⟨b', off', rfl, hbl', hcells'⟩ := HV.out (by rw [List.length_map, HZ.out, List.length_append, List.length_map]; omega)
      obtain ⟨e0, e1, e2, e3⟩ := hcells' (nx + k) (rt (shift (s.size + 1) y)) (by
        have := HNX.out
        rw [List.getElem?_map, HZ.out, List.getElem?_append_right (by omega), show nx + k - xs.length = k by omega, List.getElem?_map, List.getElem?_eq_getElem l1, ← hy]; rfl)
      clear hcells hcells' hy l1
      obtain ⟨kind, st, n, ps⟩ := y
      simp only [rt, shift] at d0 d1 d2 d3 e0 e1 e2 e3
      simp only at hp
      obtain ⟨q, hq⟩ : ∃ q, q = strB st := ⟨_, rfl⟩
      rw [← hq] at d1 e1
      clear hq
      rw [show ((ps + (s.size + 1) : Nat) : Int) = (ps : Int) + (s.size : Int) + 1 by omega] at e3
      have i0 : (0 : Int) ≤ (k : Int) := by omega
      have i1 : (k : Int) < (ny : Int) := by omega
      have i4 : (0 : Int) ≤ (nx : Int) + (k : Int) := by omega
      have i5 : (nx : Int) + (k : Int) < (nx : Int) + (ny : Int) := by omega
      have i6 : (ps : Int) ≤ 30000 := by omega
      have i7 : ((nx : Int) + (k : Int)).toNat = nx + k := by omega
      go_wp2_with fail
      go_quiet (fail)
      go_wp2_with fail
      have hBe : Below wr.heap.size wr ((wr.alloc (Obj.cells #[Value.int IntKind.i64 kind, Value.string q, Value.int IntKind.i64 n, Value.int IntKind.i64 ((ps : Int) + (s.size : Int) + 1)] 43)).drewN nq) := ((Below.refl _ _).alloc (Nat.le_refl _) _).grown (grown_drewN _ nq none) (by simp) (fun k e => by cases e)
      go_roundw
      case rel => exact ⟨k + 1, by omega, by go_num, HT.out.below hBe, HU.out.below hBe, HV.out.below hBe, below_call HB.out hBe⟩
      case measure => simp [intOf]; omega
    · obtain rfl : k = ny := by omega
      go_wp2_with fail
      refine (Same_n _ _ _ _ nx xs _ (toks_take (ys := (ys.map (shift (s.size + 1))).map rt) (by have := HV.out; rw [HZ.out, List.map_append] at this; exact this)) HT.out HNX.out (by omega)).mono ?_; rintro e w4 ⟨rfl, hb⟩
      have HB4 := Lib.hid (below_call HB.out hb)
      clear hb
      go_wp2_with fail
      refine (Awake_any _ (HE.out.below HB4.out)).mono ?_; rintro e w5 ⟨rfl, hb⟩
      have HB5 := Lib.hid (below_call HB4.out hb)
      clear hb
      go_wp2_with fail
      go_ret
      exact ⟨rfl, HB5.out⟩

theorem parts_walk (s t : ByteArray) (w : World) (hs : s.size ≤ 281474976710656) (ht : t.size ≤ 281474976710656) (hE : Env w) :
    Calls Tryd.prog 11 #[.string s, .string t] w (Fin w) := by
  obtain ⟨xs, x, er, hx⟩ : ∃ xs x er, lexS s.data.toList = (xs, x, er) := ⟨_, _, _, rfl⟩
  obtain ⟨ys, y, fr, hy⟩ : ∃ ys y fr, lexS t.data.toList = (ys, y, fr) := ⟨_, _, _, rfl⟩
  have hd : ∀ {a b : Int}, ¬ a = b → (a == b) = false ∧ (a != b) = true := fun h => ⟨eq_false' h, by rw [bne_iff_ne]; exact h⟩
  by_cases h2 : er = 2
  · subst h2; exact parts_cut s t w hs hE xs x hx
  · by_cases h0 : er = 0
    · by_cases f0 : fr = 0
      · by_cases hsz : s.size + 1 + t.size ≤ 30000
        · subst h0; subst f0
          obtain rfl := lexS_at0 hx
          obtain rfl := lexS_at0 hy
          exact parts_both s t w hE xs ys hx hy hsz
        · exact parts_none s t w hs ht hE xs ys x y er fr hx hy (eq_false' h2) (.inr (.inr ⟨h0, f0, decide_eq_true (by omega)⟩))
      · exact parts_none s t w hs ht hE xs ys x y er fr hx hy (eq_false' h2) (.inr (.inl ⟨h0, hd f0⟩))
    · exact parts_none s t w hs ht hE xs ys x y er fr hx hy (eq_false' h2) (.inl (hd h0))
end Go.Proofs.YtdnolbbkphgfiaaDoor
