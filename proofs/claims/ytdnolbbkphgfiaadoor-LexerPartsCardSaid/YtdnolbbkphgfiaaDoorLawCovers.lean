/- The law LexerCovers, walked. -/
import Derived.Test.YtdnolbbkphgfiaaDoorCov
import Derived.Test.YtdnolbbkphgfiaaDoorRefE
import Derived.Test.YtdnolbbkphgfiaaDoorLawTokens
import Derived.BigQuiet
namespace Go.Proofs.YtdnolbbkphgfiaaDoor
open Go.RowKit

/-- the numbers of tokens are small -/
theorem lexS_num {l : List UInt8} {xs : List Tk} {a b : Int} (h : lexS l = (xs, a, b)) {t : Tk} (ht : t ∈ xs) : 0 ≤ t.n ∧ t.n ≤ 999999999 := by
  obtain ⟨p, hp⟩ := lexS_mem h ht
  rcases tokS_class hp with ⟨_, _, h⟩ | ⟨_, h, _⟩
  · exact (integerS_canon h).2
  · omega
theorem eq_false' {a b : Int} (h : ¬ a = b) : (a == b) = false := by rw [beq_eq_false_iff_ne]; exact h

set_option maxRecDepth 100000 in
set_option maxHeartbeats 1000000 in
theorem covers_walk (s : ByteArray) (w : World) (hs : s.size ≤ 281474976710656) (hE : Env w) :
    Calls Tryd.prog 10 #[.string s] w (Fin w) := by
  obtain ⟨xs, a, er, hx⟩ : ∃ xs a er, lexS s.data.toList = (xs, a, er) := ⟨_, _, _, rfl⟩
  have hlen : xs.length ≤ 30001 := by have := lexS_len s.data.toList; rwa [hx] at this
  have H1 := Lib.hid (fun w hY => Lex_is s xs a er w hY (by unfold maxLen; omega) hx)
  have HE := Lib.hid hE
  clear hE
  by_cases he : er = 0
  · subst he
    have HN : Hid (∀ t ∈ xs, 0 ≤ t.n ∧ t.n ≤ 999999999) := fun t ht => lexS_num hx ht
    obtain ⟨fin, hcov, hfin⟩ := lexS_cov hx
    rw [len_data] at hfin
    have HC := Lib.hid hcov
    clear hx hcov
    go_enter Tryd.func10, Tryd.ntmps10
    go_wp2_with fail
    refine (H1.out _ HE.out.syms).mono ?_; rintro e w1 ⟨A, c, rfl, hT, hb⟩
    have HT1 := Lib.hid hT
    have HB1 := Lib.hid hb
    clear hT hb H1
    go_wp2_with fail
    go_loopw [6, 7] (fun v i wr => ∃ k q : Nat, k ≤ xs.length ∧ q ≤ s.size ∧ i = .int .i64 (k : Int) ∧ v = .int .i64 (q : Int) ∧ Hid (Cov s.data.toList q (xs.drop k) fin) ∧ Hid (Toks wr A (xs.map rt)) ∧ Hid (Below w.heap.size w wr)) (fun _ i _ => xs.length - (intOf i).toNat)
    case atStart => exact ⟨0, 0, by omega, by omega, rfl, rfl, HC, HT1, HB1⟩
    case round =>
      clear HC HT1 HB1
      obtain ⟨k, q, hk, hq, rfl, rfl, HC, HT, HB⟩ := hrel
      have hsp := sp_le s q hq
      obtain ⟨sl, hsl⟩ : ∃ sl, sl = spLen false (s.data.toList.drop q) := ⟨_, rfl⟩
      have H36 : Hid (∀ w, Calls Tryd.prog 36 #[.string s, .int .i64 (q : Int)] w fun e w' => e = .returned (.int .i64 (sl : Int)) ∧ w' = w) := fun w => (rSpace_any s q w hs hq).mono fun e w' h => ⟨by rw [h.1, hsl], h.2.symm⟩
      by_cases hlt : k < xs.length
      · obtain ⟨t, ht⟩ : ∃ t, t = xs[k] := ⟨_, rfl⟩
        have hdr : xs.drop k = t :: xs.drop (k + 1) := by rw [ht]; exact List.drop_eq_getElem_cons hlt
        have hcv := HC.out
        rw [hdr] at hcv
        obtain ⟨hp, htx, htl, hrest⟩ := hcv
        have hmem : t ∈ xs := by rw [ht]; exact List.getElem_mem hlt
        have hn := HN.out t hmem
        obtain ⟨b, off, rfl, hbl, hcells⟩ := HT.out (by rw [List.length_map]; omega)
        obtain ⟨d0, d1, d2, d3⟩ := hcells k (rt t) (by rw [List.getElem?_map, List.getElem?_eq_getElem hlt, ← ht]; rfl)
        clear hcells
        obtain ⟨kind, st, n, ps⟩ := t
        rw [← hsl] at hp hsp
        simp only at hp hn
        simp only [rt] at d0 d1 d2 d3
        have hle := part_le s ps (by omega)
        obtain ⟨x, hxx⟩ : ∃ x, x = txt ⟨kind, st, n, ps⟩ := ⟨_, rfl⟩
        rw [← hxx] at htx htl hrest
        simp only at htx
        rw [← htx] at hle
        have hxl : (strB x).size = x.length := by rw [← len_data]; rfl
        have hw := pre_of_part (s.data.toList.drop ps)
        rw [← htx] at hw
        have hs1 : ∀ w, Calls Tryd.prog 35 #[.agg #[.int .i64 kind, .string (strB st), .int .i64 n, .int .i64 (ps : Int)]] w fun e w' => e = .returned (.string (strB x)) ∧ Below w.heap.size w w' := fun w => (rText_any kind n ps (strB st) w (by omega)).mono fun e w' h => ⟨by rw [h.1, data_strB, hxx]; rfl, h.2⟩
        have hs2 : ((s.extract ps (ps + (strB x).size)).toList == (strB x).toList) = true := by
          rw [ByteArray.toList_eq, ByteArray.toList_eq, data_strB, extract_take, data_strB, hxl, beq_iff_eq]
          exact hw
        rw [← hxl] at htl hle hrest
        clear hw hxx htx hxl
        obtain ⟨tx, htx⟩ : ∃ tx, tx = strB x := ⟨_, rfl⟩
        rw [← htx] at hs1 hs2 htl hle hrest
        clear htx
        subst hp
        simp only [Int.natCast_add] at hs1 d3
        have HTx := Lib.hid hs1
        have b2 : ((s.extract (q + sl) (q + sl + tx.size)).toList == tx.toList) = true := hs2
        clear hs1 hs2
        have HI : Hid (∀ w, Calls Tryd.prog 34 #[.int .i64 ((q : Int) + (sl : Int)), .int .i64 (q : Int), .int .i64 ((s.size : Int) - (tx.size : Int))] w fun e w' => e = .returned (.bool true) ∧ w' = w) := fun w => (In_any _ _ _ w).mono fun e w' h => ⟨by rw [h.1]; apply ret_bool; rw [decide_eq_true (by omega), decide_eq_true (by omega)]; rfl, h.2.symm⟩
        have b3 := cons_toList (s := tx) (by omega)
        have HC2 : Hid (Cov s.data.toList (q + sl + tx.size) (xs.drop (k + 1)) fin) := hrest
        have i0 : (0 : Int) ≤ (k : Int) := by omega
        have i1 : (k : Int) < (xs.length : Int) := by omega
        clear HC hdr hmem ht hrest hsl
        go_wp2_with fail
        refine (HTx.out _).mono ?_; rintro e w2 ⟨rfl, hb⟩
        have HT2 := Lib.hid (HT.out.below hb)
        have HB2 := Lib.hid (below_call HB.out hb)
        obtain ⟨cc, _⟩ := bcell hb
        rw [← cc b _ hbl] at d0 d1 d2 d3
        clear hb HT HB cc
        go_wp2_with fail
        go_quiet (first | (go_at_call 34; exact Calls.quiet_of_same (HI.out _)) | (go_at_call 36; exact Calls.quiet_of_same (H36.out _)))
        go_wp2_with fail
        go_roundw
        case rel => exact ⟨k + 1, q + sl + tx.size, by omega, by omega, by go_num, by go_num, HC2, HT2.out.below (Below.grown (Below.refl _ _) (grown_drewN _ nq none) (Nat.le_refl _) (fun k e => by cases e)), HB2.out.grown (grown_drewN _ nq none) HB2.out.size (fun k e => by cases e)⟩
        case measure => simp [intOf]; omega
      · obtain rfl : k = xs.length := by omega
        have hcv := HC.out
        rw [List.drop_length] at hcv
        have he : (q : Int) + (sl : Int) = (s.size : Int) := by
          have : fin = q + sl := by rw [hsl]; exact hcv
          rw [← hsl] at hsp
          omega
        clear hcv HC hsl hsp
        go_wp2_with fail
        refine (H36.out _).mono ?_; rintro e w' ⟨rfl, rfl⟩
        go_wp2_with fail
        refine (Awake_any _ (HE.out.below HB.out)).mono ?_; rintro e w4 ⟨rfl, hb⟩
        have HB4 := Lib.hid (below_call HB.out hb)
        clear hb
        go_wp2_with fail
        go_ret
        exact ⟨rfl, HB4.out⟩
  · have hz := eq_false' he
    clear hx he
    go_enter Tryd.func10, Tryd.ntmps10
    go_wp2_with fail
    refine (H1.out _ HE.out.syms).mono ?_; rintro e w1 ⟨A, c, rfl, hT, hb⟩
    have HB1 := Lib.hid hb
    clear hT hb H1
    go_wp2_with fail
    refine (Awake_any _ (HE.out.below HB1.out)).mono ?_; rintro e w4 ⟨rfl, hb⟩
    have HB4 := Lib.hid (below_call HB1.out hb)
    clear hb
    go_wp2_with fail
    go_ret
    exact ⟨rfl, HB4.out⟩
end Go.Proofs.YtdnolbbkphgfiaaDoor
