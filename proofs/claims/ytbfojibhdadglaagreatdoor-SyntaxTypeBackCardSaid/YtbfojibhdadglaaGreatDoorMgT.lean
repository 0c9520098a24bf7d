/- Texts put together by program: TyD TyG TyCa TbA TyCb TyCc TbB TpL TpM TpN TpO TpP TpQ TpS LawTb. -/
import Derived.Test.YtbfojibhdadglaaGreatDoorMgP
import Derived.Deep.RegionHeld3
import Derived.Test.YtbfojibhdadglaaGreatDoorMgH
import Derived.BigQuiet
import Derived.Deep.QuietTactic
import Derived.Test.YtbfojibhdadglaaGreatDoorMgR
import Derived.Test.YtbfojibhdadglaaGreatDoorMgA
import Derived.Test.YtbfojibhdadglaaGreatDoorMgS
import Derived.Test.YtbfojibhdadglaaGreatDoorMgQ
import Derived.Test.YtbfojibhdadglaaGreatDoorMgF
import Derived.Test.YtbfojibhdadglaaGreatDoorMgG
/- Rows, compared: the reference's SameRow; slices.Equal of labels. -/
namespace Go.Proofs.YtbfojibhdadglaaGreatDoor
open Go.RowKit

set_option maxRecDepth 100000 in
set_option maxHeartbeats 4000000 in
theorem sameRow_any (P Q : Nat → Prop) (A B : Option Addr) (c d : Nat) (L M : List (Txt × Int)) (tl tl' : Int) (w : World) (hL : LabsAt P w A L) (hM : LabsAt Q w B M) (hl : L.length ≤ maxLen ∧ M.length ≤ maxLen) :
    Calls Tryz.prog 24 #[.agg #[.slice A L.length c, .int .i64 tl], .agg #[.slice B M.length d, .int .i64 tl']] w fun e w' => e = .returned (.bool (decide (tl = tl') && decide (L = M))) ∧ Below w.heap.size w w' := by
  obtain ⟨n, hn⟩ : ∃ n, n = L.length := ⟨_, rfl⟩
  obtain ⟨m, hm⟩ : ∃ n, n = M.length := ⟨_, rfl⟩
  have hl1 : (n : Int) ≤ 9223372036854775807 := by have := hl.1; unfold maxLen at this; omega
  have HL := Lib.hid hL
  have HM := Lib.hid hM
  have HN := Lib.hid hn
  have HNm := Lib.hid hm
  obtain ⟨r, hr⟩ : ∃ r, r = (decide (tl = tl') && decide (L = M)) := ⟨_, rfl⟩
  rw [← hr, ← hn, ← hm]
  clear hL hM hn hm hl
  obtain ⟨W2, hW2⟩ : ∃ W, (w.alloc (.cells #[.slice A n c, .int .i64 tl] 26)).alloc (.cells #[.slice B m d, .int .i64 tl'] 26) = W := ⟨_, rfl⟩
  have HB2 : Hid (Below w.heap.size w W2) := Lib.hid (by rw [← hW2]; exact ((Below.refl _ _).alloc (Nat.le_refl _) _).alloc (by simp) _)
  have hx : W2.heap[w.heap.size]? = some (.cells #[.slice A n c, .int .i64 tl] 26 (0, 0)) := by rw [← hW2]; exact (Lib.alloc_old _ _ _ (by simp)).trans (heap_alloc_new w _)
  have hy : W2.heap[w.heap.size + 1]? = some (.cells #[.slice B m d, .int .i64 tl'] 26 (0, 0)) := by rw [← hW2]; have := heap_alloc_new (w.alloc (.cells #[.slice A n c, .int .i64 tl] 26)) (.cells #[.slice B m d, .int .i64 tl'] 26); rwa [World.size_alloc] at this
  have HX := Lib.hid hx
  have HY := Lib.hid hy
  have a0 := cell_of_row W2 w.heap.size 0 _ _ (0, 0) hx
  have a1 := cell_of_row W2 w.heap.size 1 _ _ (0, 0) hx
  have b0 := cell_of_row W2 (w.heap.size + 1) 0 _ _ (0, 0) hy
  have b1 := cell_of_row W2 (w.heap.size + 1) 1 _ _ (0, 0) hy
  simp only [List.getElem?_toArray, List.getElem?_cons_zero, List.getElem?_cons_succ] at a0 a1 b0 b1
  have hzw : w.heap.size + 1 < W2.heap.size := by rw [← hW2]; simp
  clear hx hy
  by_cases e1 : tl = tl'
  case neg =>
    have HR : Hid (r = false) := Lib.hid (by rw [hr, decide_eq_false e1]; rfl)
    have f1 : (tl != tl') = true := by simpa using e1
    clear hr e1
    go_enter Tryz.func24, Tryz.ntmps24
    go_wp2_with fail
    go_ret
    exact ⟨by rw [HR.out]; rfl, HB2.out⟩
  subst e1
  by_cases hnm : n = m
  case neg =>
    have HR : Hid (r = false) := Lib.hid (by rw [hr, decide_eq_false (p := L = M) (fun h => hnm (by rw [HN.out, HNm.out, h]))]; simp)
    have h1 : ((n : Int) != (m : Int)) = true := by simp; omega
    have h2 : ((n : Int) == (m : Int)) = false := by simp; omega
    clear hr hnm
    go_enter Tryz.func24, Tryz.ntmps24
    go_wp2_with fail
    go_ret
    exact ⟨by rw [HR.out]; rfl, HB2.out⟩
  subst hnm
  have h1 : ((n : Int) != (n : Int)) = false := by simp
  have HR : Hid (r = decide (L = M)) := Lib.hid (by rw [hr]; simp)
  clear hr
  go_enter Tryz.func24, Tryz.ntmps24
  go_wp2_with fail
  clear hW2
  go_loopw [5] (fun i wr => ∃ k : Nat, k ≤ n ∧ i = .int .i64 (k : Int) ∧ Hid (Below W2.heap.size W2 wr) ∧ Hid (L.take k = M.take k)) (fun i _ => n - (intOf i).toNat)
  case atStart => exact ⟨0, Nat.zero_le _, rfl, Lib.hid (Below.refl _ _), Lib.hid rfl⟩
  case round =>
    obtain ⟨k, hk, rfl, hB, hE⟩ := hrel
    have i0 : (0 : Int) ≤ (k : Int) := by omega
    clear a0 a1 b0 b1
    have HB0 := Lib.hid (HB2.out.trans (hB.out.mono HB2.out.size))
    have hx := (hB.out.block _ (by omega)).trans HX.out
    have hy := (hB.out.block _ hzw).trans HY.out
    have hzr : w.heap.size + 1 < wr.heap.size := Nat.lt_of_lt_of_le hzw hB.out.size
    have a0 := cell_of_row wr w.heap.size 0 _ _ (0, 0) hx
    have b0 := cell_of_row wr (w.heap.size + 1) 0 _ _ (0, 0) hy
    simp only [List.getElem?_toArray, List.getElem?_cons_zero] at a0 b0
    clear hx hy
    by_cases hkn : k < n
    case pos =>
      have hk1 : k < L.length := by rw [← HN.out]; exact hkn
      have hk2 : k < M.length := by rw [← HNm.out]; exact hkn
      have i1 : (k : Int) < (n : Int) := by omega
      obtain ⟨x, hx⟩ : ∃ x, x = L[k] := ⟨_, rfl⟩
      obtain ⟨y, hy⟩ : ∃ x, x = M[k] := ⟨_, rfl⟩
      have hxl : L[k]? = some x := by rw [hx]; exact List.getElem?_eq_getElem hk1
      have hyl : M[k]? = some y := by rw [hy]; exact List.getElem?_eq_getElem hk2
      obtain ⟨b, off, rfl, _, hlt, hc⟩ := HL.out (List.ne_nil_of_length_pos (by omega))
      obtain ⟨b', off', rfl, _, hlt2, hc2⟩ := HM.out (List.ne_nil_of_length_pos (by omega))
      have d1 := (Below.cell (p := ⟨b, _, none⟩) HB0.out hlt).trans (hc k x hxl).1
      have d2 := (Below.cell (p := ⟨b, _, none⟩) HB0.out hlt).trans (hc k x hxl).2
      have e1 := (Below.cell (p := ⟨b', _, none⟩) HB0.out hlt2).trans (hc2 k y hyl).1
      have e2 := (Below.cell (p := ⟨b', _, none⟩) HB0.out hlt2).trans (hc2 k y hyl).2
      obtain ⟨X, hX⟩ : ∃ X, X = strB x.1 := ⟨_, rfl⟩
      obtain ⟨Y, hY⟩ : ∃ X, X = strB y.1 := ⟨_, rfl⟩
      obtain ⟨N, hNx⟩ : ∃ X, X = x.2 := ⟨_, rfl⟩
      obtain ⟨Mv, hMy⟩ : ∃ X, X = y.2 := ⟨_, rfl⟩
      rw [← hX] at d1
      rw [← hNx] at d2
      rw [← hY] at e1
      rw [← hMy] at e2
      have HRf : Hid (x ≠ y → r = false) := Lib.hid (fun h => by rw [HR.out]; refine decide_eq_false (fun h2 => h ?_); subst h2; exact Option.some.inj (hxl.symm.trans hyl))
      have HEq : Hid (x = y → L.take (k + 1) = M.take (k + 1)) := Lib.hid (fun h => by rw [take_succ_of hk1, take_succ_of hk2, hE.out, ← hx, ← hy, h])
      have HB0' := Lib.hid HB0.out
      clear hc hc2 hx hy hxl hyl hlt hlt2
      by_cases q1 : x.1 = y.1
      case neg =>
        have HRn := Lib.hid (HRf.out (fun h => q1 (by rw [h])))
        have q9 : ¬ X.toList = Y.toList := by rw [hX, hY, ByteArray.toList_eq, ByteArray.toList_eq, data_strB, data_strB]; exact q1
        have q8 : (X.toList == Y.toList) = false := beq_eq_false_iff_ne.2 q9
        clear q1 hX hY hNx hMy
        go_wp2_with fail
        go_region_held3 (fun w' => w'.cell? ⟨w.heap.size, 0, none⟩ = some (.slice (some ⟨b, off, none⟩) n c) ∧ w'.cell? ⟨w.heap.size + 1, 0, none⟩ = some (.slice (some ⟨b', off', none⟩) n d) ∧ w'.cell? ⟨b, off + k * 2, none⟩ = some (.string X) ∧ w'.cell? ⟨b, off + k * 2 + 1, none⟩ = some (.int .i64 N) ∧ w'.cell? ⟨b', off' + k * 2, none⟩ = some (.string Y) ∧ w'.cell? ⟨b', off' + k * 2 + 1, none⟩ = some (.int .i64 Mv) ∧ Below W2.heap.size W2 w')
          ((exact ⟨a0, b0, d1, d2, e1, e2, hB.out.drew⟩))
          (fail)
        rename_i hh
        have HBn := Lib.hid hh.2.2.2.2.2.2
        clear hh d1 d2 e1 e2 a0 b0
        go_wp2_with fail
        go_ret
        exact ⟨by rw [HRn.out]; rfl, HB2.out.trans (HBn.out.mono HB2.out.size)⟩
      obtain rfl : Y = X := by rw [hX, hY, q1]
      by_cases q2 : x.2 = y.2
      case neg =>
        have HRn := Lib.hid (HRf.out (fun h => q2 (by rw [h])))
        have q9 : ¬ N = Mv := by rw [hNx, hMy]; exact q2
        have q8 : (N == Mv) = false := beq_eq_false_iff_ne.2 q9
        clear q1 q2 hX hY hNx hMy
        go_wp2_with fail
        go_region_held3 (fun w' => w'.cell? ⟨w.heap.size, 0, none⟩ = some (.slice (some ⟨b, off, none⟩) n c) ∧ w'.cell? ⟨w.heap.size + 1, 0, none⟩ = some (.slice (some ⟨b', off', none⟩) n d) ∧ w'.cell? ⟨b, off + k * 2, none⟩ = some (.string Y) ∧ w'.cell? ⟨b, off + k * 2 + 1, none⟩ = some (.int .i64 N) ∧ w'.cell? ⟨b', off' + k * 2, none⟩ = some (.string Y) ∧ w'.cell? ⟨b', off' + k * 2 + 1, none⟩ = some (.int .i64 Mv) ∧ Below W2.heap.size W2 w')
          ((exact ⟨a0, b0, d1, d2, e1, e2, hB.out.drew⟩))
          (fail)
        rename_i hh
        have HBn := Lib.hid hh.2.2.2.2.2.2
        clear hh d1 d2 e1 e2 a0 b0
        go_wp2_with fail
        go_ret
        exact ⟨by rw [HRn.out]; rfl, HB2.out.trans (HBn.out.mono HB2.out.size)⟩
      obtain rfl : Mv = N := by rw [hNx, hMy, q2]
      have HEn := Lib.hid (HEq.out (Prod.ext q1 q2))
      clear q1 q2 hX hY hNx hMy
      go_wp2_with fail
      go_region_held3 (fun w' => w'.cell? ⟨w.heap.size, 0, none⟩ = some (.slice (some ⟨b, off, none⟩) n c) ∧ w'.cell? ⟨w.heap.size + 1, 0, none⟩ = some (.slice (some ⟨b', off', none⟩) n d) ∧ w'.cell? ⟨b, off + k * 2, none⟩ = some (.string Y) ∧ w'.cell? ⟨b, off + k * 2 + 1, none⟩ = some (.int .i64 Mv) ∧ w'.cell? ⟨b', off' + k * 2, none⟩ = some (.string Y) ∧ w'.cell? ⟨b', off' + k * 2 + 1, none⟩ = some (.int .i64 Mv) ∧ Below W2.heap.size W2 w')
        ((exact ⟨a0, b0, d1, d2, e1, e2, hB.out.drew⟩))
        (fail)
      rename_i hh
      have HBn := Lib.hid hh.2.2.2.2.2.2
      clear hh d1 d2 e1 e2 a0 b0
      go_wp2_with fail
      go_roundw
      case rel => exact ⟨k + 1, by omega, by go_num, HBn, HEn⟩
      case measure => simp [intOf]; omega
    case neg =>
      obtain rfl : k = n := by omega
      have HRt : Hid (r = true) := Lib.hid (by
        rw [HR.out]
        refine decide_eq_true ?_
        have h := hE.out
        rw [List.take_of_length_le (by rw [← HN.out]; exact Nat.le_refl _), List.take_of_length_le (by rw [← HNm.out]; exact Nat.le_refl _)] at h
        exact h)
      go_wp2_with fail
      go_ret
      exact ⟨by rw [HRt.out]; rfl, HB0.out⟩
end Go.Proofs.YtbfojibhdadglaaGreatDoor
/- The reference's comparison of types. -/
namespace Go.Proofs.YtbfojibhdadglaaGreatDoor
open Go.RowKit

/-- what a comparison of a type with any other one answers -/
def StSays (a : Ty) : Prop := ∀ (b : Ty) (cs1 cs2 : List Value) (w : World), RepT (fun _ => True) w a cs1 → RepT (fun _ => True) w b cs2 → Calls Tryz.prog 10 #[.agg cs1.toArray, .agg cs2.toArray] w fun r w' => r = .returned (.bool (sameT a b)) ∧ Below w.heap.size w w'
set_option maxRecDepth 100000 in
set_option maxHeartbeats 8000000 in
theorem rSameType_any : ∀ a, StSays a := by
  refine Ty.ind fun a ih b cs1 cs2 w h1 h2 => ?_
  cases a with
  | mk k n s l ls tl =>
  cases b with
  | mk k' n' s' l' ls' tl' =>
  have hE := sameT_eq (.mk k n s l ls tl) (.mk k' n' s' l' ls' tl')
  obtain ⟨Al, cl, Ar, cr, rfl, hf, hls, hl⟩ := h1.tight
  obtain ⟨Bl, dl, Br, dr, rfl, hf', hls', hl'⟩ := h2.tight
  have bd2 : l.length ≤ maxLen := Nat.le_trans hf.hcl.1 hf.hcl.2
  have bd2' : l'.length ≤ maxLen := Nat.le_trans hf'.hcl.1 hf'.hcl.2
  have bd3 : ls.length ≤ maxLen := Nat.le_trans hf.hcr.1 hf.hcr.2
  have bd3' : ls'.length ≤ maxLen := Nat.le_trans hf'.hcr.1 hf'.hcr.2
  have hPl : TParts w.heap.size w Al l := tparts_of hl
  have hPl' : TParts w.heap.size w Bl l' := tparts_of hl'
  obtain ⟨S, hS⟩ : ∃ S, S = strB s := ⟨_, rfl⟩
  obtain ⟨nl, hnl⟩ : ∃ q, q = l.length := ⟨_, rfl⟩
  obtain ⟨nr, hnr⟩ : ∃ q, q = ls.length := ⟨_, rfl⟩
  obtain ⟨S', hS'⟩ : ∃ S, S = strB s' := ⟨_, rfl⟩
  obtain ⟨nl', hnl'⟩ : ∃ q, q = l'.length := ⟨_, rfl⟩
  obtain ⟨nr', hnr'⟩ : ∃ q, q = ls'.length := ⟨_, rfl⟩
  obtain ⟨VR, hVR⟩ : ∃ R, R = (decide (tl = tl') && decide (ls = ls')) := ⟨_, rfl⟩
  have HQr : Hid (∀ w', Below w.heap.size w w' → Calls Tryz.prog 24 #[.agg #[.slice Ar nr cr, .int .i64 tl], .agg #[.slice Br nr' dr, .int .i64 tl']] w' fun e w2 => e = .returned (.bool VR) ∧ Below w'.heap.size w' w2) := Lib.hid (fun w' hb => by
    rw [hnr, hnr', hVR]
    exact sameRow_any _ _ Ar Br cr dr ls ls' tl tl' w' (hls.keep (Same.of_below hb)) (hls'.keep (Same.of_below hb)) ⟨bd3, bd3'⟩)
  obtain ⟨R, hR⟩ : ∃ R, R = sameT (.mk k n s l ls tl) (.mk k' n' s' l' ls' tl') := ⟨_, rfl⟩
  show Calls Tryz.prog 10 #[.agg #[.int .i64 k, .int .i64 n, .string (strB s), .slice Al l.length cl, .slice Ar ls.length cr, .int .i64 tl], .agg #[.int .i64 k', .int .i64 n', .string (strB s'), .slice Bl l'.length dl, .slice Br ls'.length dr, .int .i64 tl']] w fun r w' => r = .returned (.bool (sameT (.mk k n s l ls tl) (.mk k' n' s' l' ls' tl'))) ∧ Below w.heap.size w w'
  rw [← hR, ← hS, ← hS', ← hnl, ← hnl', ← hnr, ← hnr']
  rw [← hR] at hE
  have hnlb : (nl : Int) ≤ 9223372036854775807 := by rw [hnl]; unfold maxLen at bd2; omega
  have HB2 : Hid (Below w.heap.size w ((w.alloc (.cells #[.int .i64 k, .int .i64 n, .string S, .slice Al nl cl, .slice Ar nr cr, .int .i64 tl] 28)).alloc (.cells #[.int .i64 k', .int .i64 n', .string S', .slice Bl nl' dl, .slice Br nr' dr, .int .i64 tl'] 28))) := Lib.hid (((Below.refl _ _).alloc (Nat.le_refl _) _).alloc (by simp) _)
  obtain ⟨W2, hW2⟩ : ∃ W, (w.alloc (.cells #[.int .i64 k, .int .i64 n, .string S, .slice Al nl cl, .slice Ar nr cr, .int .i64 tl] 28)).alloc (.cells #[.int .i64 k', .int .i64 n', .string S', .slice Bl nl' dl, .slice Br nr' dr, .int .i64 tl'] 28) = W := ⟨_, rfl⟩
  have HEa : Hid (TyBx W2 w.heap.size (.int .i64 k) (.int .i64 n) (.string S) (.slice Al nl cl) (.slice Ar nr cr) (.int .i64 tl)) := Lib.hid (by rw [← hW2]; exact (TyBx.new w _ _ _ _ _ _).kept (World.grownBy_alloc _ _ none) (by simp))
  have HEb : Hid (TyBx W2 (w.heap.size + 1) (.int .i64 k') (.int .i64 n') (.string S') (.slice Bl nl' dl) (.slice Br nr' dr) (.int .i64 tl')) := Lib.hid (by rw [← hW2]; have := TyBx.new (w.alloc (.cells #[.int .i64 k, .int .i64 n, .string S, .slice Al nl cl, .slice Ar nr cr, .int .i64 tl] 28)) (.int .i64 k') (.int .i64 n') (.string S') (.slice Bl nl' dl) (.slice Br nr' dr) (.int .i64 tl'); rwa [World.size_alloc] at this)
  rw [hW2] at HB2
  obtain ⟨a0, a1, a2, a3, a4, a5⟩ := HEa.out.c
  obtain ⟨b0, b1, b2, b3, b4, b5⟩ := HEb.out.c
  clear bd2 bd2' bd3 bd3' hf hf' hl hl' hls hls' h1 h2
  by_cases ek : k = k'
  case neg =>
    have HR : Hid (R = false) := Lib.hid (by rw [hE, show hdT _ _ = false from by simp [hdT, Ty.k, Ty.n, Ty.s, Ty.ls, Ty.tl, ek]]; rfl)
    have f1 : (k != k') = true := by simpa using ek
    clear hS hS' hnl hnl' hnr hnr' hR hE hVR hPl hPl' ih ek
    go_enter Tryz.func10, Tryz.ntmps10
    go_wp2_with fail
    go_ret
    exact ⟨by rw [HR.out]; rfl, HB2.out⟩
  subst ek
  by_cases en : n = n'
  case neg =>
    have HR : Hid (R = false) := Lib.hid (by rw [hE, show hdT _ _ = false from by simp [hdT, Ty.k, Ty.n, Ty.s, Ty.ls, Ty.tl, en]]; rfl)
    have f1 : (n != n') = true := by simpa using en
    clear hS hS' hnl hnl' hnr hnr' hR hE hVR hPl hPl' ih en
    go_enter Tryz.func10, Tryz.ntmps10
    go_wp2_with fail
    go_ret
    exact ⟨by rw [HR.out]; rfl, HB2.out⟩
  subst en
  by_cases es : s = s'
  case neg =>
    have HR : Hid (R = false) := Lib.hid (by rw [hE, show hdT _ _ = false from by simp [hdT, Ty.k, Ty.n, Ty.s, Ty.ls, Ty.tl, es]]; rfl)
    have f0 : (S.toList == S'.toList) = false := by rw [hS, hS', ByteArray.toList_eq, ByteArray.toList_eq, data_strB, data_strB]; exact beq_eq_false_iff_ne.2 es
    have f1 : (S.toList != S'.toList) = true := by simp only [bne, f0]; rfl
    clear hS hS' hnl hnl' hnr hnr' hR hE hVR hPl hPl' ih es
    go_enter Tryz.func10, Tryz.ntmps10
    go_wp2_with fail
    go_ret
    exact ⟨by rw [HR.out]; rfl, HB2.out⟩
  subst es
  obtain rfl : S' = S := by rw [hS, hS']
  have hHd : hdT (.mk k n s l ls tl) (.mk k n s l' ls' tl') = VR := by rw [hVR]; simp only [hdT, Ty.k, Ty.n, Ty.s, Ty.ls, Ty.tl, decide_true, Bool.true_and]; exact Bool.and_comm _ _
  rw [hHd] at hE
  cases VR with
  | false =>
    have HR : Hid (R = false) := Lib.hid (by rw [hE]; rfl)
    clear hS hS' hnl hnl' hnr hnr' hR hE hVR hPl hPl' ih hHd
    go_enter Tryz.func10, Tryz.ntmps10
    go_wp2_with fail
    clear hW2
    refine (HQr.out _ HB2.out).mono ?_
    rintro r w3 ⟨rfl, hb⟩
    have HB3 := Lib.hid (HB2.out.trans (hb.mono HB2.out.size))
    have HEa3 := Lib.hid (HEa.out.kept (grown_below hb none) (by simp))
    have HEb3 := Lib.hid (HEb.out.kept (grown_below hb none) (by simp))
    clear hb a0 a1 a2 a3 a4 a5 b0 b1 b2 b3 b4 b5
    obtain ⟨_, _, _, a3, _, _⟩ := HEa3.out.c
    obtain ⟨_, _, _, b3, _, _⟩ := HEb3.out.c
    go_wp2_with fail
    go_ret
    exact ⟨by rw [HR.out]; rfl, HB3.out⟩
  | true =>
    have HRt : Hid (R = sameTL l l') := Lib.hid (by rw [hE]; rfl)
    by_cases enl : nl = nl'
    case neg =>
      have HR : Hid (R = false) := Lib.hid (by
        rw [HRt.out]
        cases hq : sameTL l l' with
        | false => rfl
        | true => exact absurd (by rw [hnl, hnl']; exact sameTL_len hq) enl)
      have f1 : ((nl : Int) != (nl' : Int)) = true := by simp; omega
      have f2 : ((nl : Int) == (nl' : Int)) = false := by simp; omega
      clear hS hS' hnl hnl' hnr hnr' hR hE hVR hPl hPl' ih hHd enl
      go_enter Tryz.func10, Tryz.ntmps10
      go_wp2_with fail
      clear hW2
      refine (HQr.out _ HB2.out).mono ?_
      rintro r w3 ⟨rfl, hb⟩
      have HB3 := Lib.hid (HB2.out.trans (hb.mono HB2.out.size))
      have HEa3 := Lib.hid (HEa.out.kept (grown_below hb none) (by simp))
      have HEb3 := Lib.hid (HEb.out.kept (grown_below hb none) (by simp))
      clear hb a0 a1 a2 a3 a4 a5 b0 b1 b2 b3 b4 b5
      obtain ⟨_, _, _, a3, _, _⟩ := HEa3.out.c
      obtain ⟨_, _, _, b3, _, _⟩ := HEb3.out.c
      go_wp2_with fail
      go_ret
      exact ⟨by rw [HR.out]; rfl, HB3.out⟩
    subst enl
    have HNl := Lib.hid hnl
    have HNl' := Lib.hid hnl'
    have HPl := Lib.hid hPl
    have HPl' := Lib.hid hPl'
    have HIH := Lib.hid ih
    clear hS hS' hnl hnl' hnr hnr' hR hE hVR hPl hPl' ih hHd
    go_enter Tryz.func10, Tryz.ntmps10
    go_wp2_with fail
    clear hW2
    refine (HQr.out _ HB2.out).mono ?_
    rintro r w3 ⟨rfl, hb⟩
    have HB3 := Lib.hid (HB2.out.trans (hb.mono HB2.out.size))
    have HEa3 := Lib.hid (HEa.out.kept (grown_below hb none) (by simp))
    have HEb3 := Lib.hid (HEb.out.kept (grown_below hb none) (by simp))
    clear hb a0 a1 a2 a3 a4 a5 b0 b1 b2 b3 b4 b5
    obtain ⟨_, _, _, a3, _, _⟩ := HEa3.out.c
    obtain ⟨_, _, _, b3, _, _⟩ := HEb3.out.c
    have hzw : w.heap.size + 1 < w3.heap.size := HEb3.out.lt
    go_wp2_with fail
    go_loopw [5] (fun i wr => ∃ kk : Nat, kk ≤ nl ∧ i = .int .i64 (kk : Int) ∧ Hid (Below w3.heap.size w3 wr) ∧ Hid (sameTL (l.take kk) (l'.take kk) = true)) (fun i _ => nl - (intOf i).toNat)
    case atStart => exact ⟨0, Nat.zero_le _, rfl, Lib.hid (Below.refl _ _), Lib.hid rfl⟩
    case round =>
      obtain ⟨kk, hkk, rfl, hB, hSm⟩ := hrel
      clear a3 b3
      have HB0 := Lib.hid (HB3.out.trans (hB.out.mono HB3.out.size))
      have hzr : w.heap.size + 1 < wr.heap.size := Nat.lt_of_lt_of_le hzw hB.out.size
      have HEar := Lib.hid (HEa3.out.kept (grown_below hB.out none) (by simp))
      have HEbr := Lib.hid (HEb3.out.kept (grown_below hB.out none) (by simp))
      have hs0 : PtS wr wr := Below.refl _ _
      obtain ⟨_, _, _, a3, _, _⟩ := HEar.out.c
      obtain ⟨_, _, _, b3, _, _⟩ := HEbr.out.c
      have j0 : (0 : Int) ≤ (kk : Int) := by omega
      by_cases hkl : kk < nl
      case pos =>
        have hk1 : kk < l.length := by rw [← HNl.out]; exact hkl
        have hk2 : kk < l'.length := by rw [← HNl'.out]; exact hkl
        have j1 : (kk : Int) < (nl : Int) := by omega
        obtain ⟨x, hx⟩ : ∃ x, x = l[kk] := ⟨_, rfl⟩
        obtain ⟨y, hy⟩ : ∃ x, x = l'[kk] := ⟨_, rfl⟩
        have hxl : l[kk]? = some x := by rw [hx]; exact List.getElem?_eq_getElem hk1
        have hyl : l'[kk]? = some y := by rw [hy]; exact List.getElem?_eq_getElem hk2
        obtain ⟨b, off, rfl⟩ := HPl.out.addr (by omega)
        obtain ⟨b', off', rfl⟩ := HPl'.out.addr (by omega)
        obtain ⟨hbx, k1, m1, s1, X0, p0, c0, X1, p1, c1, t1, hcx⟩ := HPl.out.at hxl
        obtain ⟨hby, k2, m2, s2, Y0, q0, d0, Y1, q1, d1, t2, hcy⟩ := HPl'.out.at hyl
        obtain ⟨f0, f1, f2, f3, f4, f5⟩ := hcx.up hbx HB0.out
        obtain ⟨g0, g1, g2, g3, g4, g5⟩ := hcy.up hby HB0.out
        have hbx2 : b < wr.heap.size := Nat.lt_of_lt_of_le hbx HB0.out.size
        have hby2 : b' < wr.heap.size := Nat.lt_of_lt_of_le hby HB0.out.size
        obtain ⟨V, hV⟩ : ∃ V, V = sameT x y := ⟨_, rfl⟩
        have HS : Hid (∀ w', PtS wr w' → Calls Tryz.prog 10 #[.agg #[.int .i64 k1, .int .i64 m1, .string s1, .slice X0 p0 c0, .slice X1 p1 c1, .int .i64 t1], .agg #[.int .i64 k2, .int .i64 m2, .string s2, .slice Y0 q0 d0, .slice Y1 q1 d1, .int .i64 t2]] w' fun r w2 => r = .returned (.bool V) ∧ Below w'.heap.size w' w2) := Lib.hid (fun w' hp => by
          have hb : Below w.heap.size w w' := HB0.out.trans (Below.mono (show Below wr.heap.size wr w' from hp) HB0.out.size)
          rw [hV]
          exact HIH.out x (List.mem_of_getElem? hxl) y _ _ w' ((hcx.rep.weaken (Q := fun _ => True) (fun _ _ => trivial)).keep (Same.of_below hb)) ((hcy.rep.weaken (Q := fun _ => True) (fun _ _ => trivial)).keep (Same.of_below hb)))
        have HV := Lib.hid hV
        have HX := Lib.hid hxl
        have HY := Lib.hid hyl
        have HTk : Hid (sameTL (l.take (kk + 1)) (l'.take (kk + 1)) = (sameTL (l.take kk) (l'.take kk) && V)) := Lib.hid (by rw [take_succ_of hk1, take_succ_of hk2, ← hx, ← hy, sameTL_snoc x y (by rw [List.length_take, List.length_take]; omega), hV])
        clear hx hy hxl hyl hcx hcy hV hbx hby
        have HAll := Lib.hid (fun w' (h : PtS wr w') => And.intro (PtS.keep h (by omega) HEar.out.c.2.2.2.1) (And.intro (PtS.keep h hzr HEbr.out.c.2.2.2.1) (And.intro (PtS.keep h hbx2 f0) (And.intro (PtS.keep h hbx2 f1) (And.intro (PtS.keep h hbx2 f2) (And.intro (PtS.keep h hbx2 f3) (And.intro (PtS.keep h hbx2 f4) (And.intro (PtS.keep h hbx2 f5) (And.intro (PtS.keep h hby2 g0) (And.intro (PtS.keep h hby2 g1) (And.intro (PtS.keep h hby2 g2) (And.intro (PtS.keep h hby2 g3) (And.intro (PtS.keep h hby2 g4) (And.intro (PtS.keep h hby2 g5) h))))))))))))))
        clear f0 f1 f2 f3 f4 f5 g0 g1 g2 g3 g4 g5 HEar HEbr
        cases V with
        | false =>
          have HRf : Hid (R = false) := Lib.hid (by rw [HRt.out, sameTL_part kk x y HX.out HY.out HV.out.symm])
          go_wp2_with fail
          clear a3 b3
          go_region_held3 (fun w' => w'.cell? ⟨w.heap.size, 3, none⟩ = some (.slice (some ⟨b, off, none⟩) nl cl) ∧ w'.cell? ⟨w.heap.size + 1, 3, none⟩ = some (.slice (some ⟨b', off', none⟩) nl dl) ∧ w'.cell? ⟨b, off + kk * 6, none⟩ = some (.int .i64 k1) ∧ w'.cell? ⟨b, off + kk * 6 + 1, none⟩ = some (.int .i64 m1) ∧ w'.cell? ⟨b, off + kk * 6 + 2, none⟩ = some (.string s1) ∧ w'.cell? ⟨b, off + kk * 6 + 3, none⟩ = some (.slice X0 p0 c0) ∧ w'.cell? ⟨b, off + kk * 6 + 4, none⟩ = some (.slice X1 p1 c1) ∧ w'.cell? ⟨b, off + kk * 6 + 5, none⟩ = some (.int .i64 t1) ∧ w'.cell? ⟨b', off' + kk * 6, none⟩ = some (.int .i64 k2) ∧ w'.cell? ⟨b', off' + kk * 6 + 1, none⟩ = some (.int .i64 m2) ∧ w'.cell? ⟨b', off' + kk * 6 + 2, none⟩ = some (.string s2) ∧ w'.cell? ⟨b', off' + kk * 6 + 3, none⟩ = some (.slice Y0 q0 d0) ∧ w'.cell? ⟨b', off' + kk * 6 + 4, none⟩ = some (.slice Y1 q1 d1) ∧ w'.cell? ⟨b', off' + kk * 6 + 5, none⟩ = some (.int .i64 t2) ∧ PtS wr w')
            ((refine HAll.out _ ?_; first | assumption | exact hs0.drew | exact .below ‹_› hs0.drew | exact .below ‹_› (.below ‹_› hs0.drew)))
            (first | (go_at_call 10; (with_reducible refine (HS.out _ (by first | assumption | exact hs0.drew | exact .below ‹_› hs0.drew | exact .below ‹_› (.below ‹_› hs0.drew))).mono ?_); rintro e w' ⟨rfl, hb⟩))
          rename_i hh
          have HBn := Lib.hid (hB.out.trans (Below.mono (show Below wr.heap.size wr _ from hh.2.2.2.2.2.2.2.2.2.2.2.2.2.2) hB.out.size))
          clear hh HAll hs0
          go_wp2_with fail
          go_ret
          exact ⟨by rw [HRf.out]; rfl, HB3.out.trans (HBn.out.mono HB3.out.size)⟩
        | true =>
          go_wp2_with fail
          clear a3 b3
          go_region_held3 (fun w' => w'.cell? ⟨w.heap.size, 3, none⟩ = some (.slice (some ⟨b, off, none⟩) nl cl) ∧ w'.cell? ⟨w.heap.size + 1, 3, none⟩ = some (.slice (some ⟨b', off', none⟩) nl dl) ∧ w'.cell? ⟨b, off + kk * 6, none⟩ = some (.int .i64 k1) ∧ w'.cell? ⟨b, off + kk * 6 + 1, none⟩ = some (.int .i64 m1) ∧ w'.cell? ⟨b, off + kk * 6 + 2, none⟩ = some (.string s1) ∧ w'.cell? ⟨b, off + kk * 6 + 3, none⟩ = some (.slice X0 p0 c0) ∧ w'.cell? ⟨b, off + kk * 6 + 4, none⟩ = some (.slice X1 p1 c1) ∧ w'.cell? ⟨b, off + kk * 6 + 5, none⟩ = some (.int .i64 t1) ∧ w'.cell? ⟨b', off' + kk * 6, none⟩ = some (.int .i64 k2) ∧ w'.cell? ⟨b', off' + kk * 6 + 1, none⟩ = some (.int .i64 m2) ∧ w'.cell? ⟨b', off' + kk * 6 + 2, none⟩ = some (.string s2) ∧ w'.cell? ⟨b', off' + kk * 6 + 3, none⟩ = some (.slice Y0 q0 d0) ∧ w'.cell? ⟨b', off' + kk * 6 + 4, none⟩ = some (.slice Y1 q1 d1) ∧ w'.cell? ⟨b', off' + kk * 6 + 5, none⟩ = some (.int .i64 t2) ∧ PtS wr w')
            ((refine HAll.out _ ?_; first | assumption | exact hs0.drew | exact .below ‹_› hs0.drew | exact .below ‹_› (.below ‹_› hs0.drew)))
            (first | (go_at_call 10; (with_reducible refine (HS.out _ (by first | assumption | exact hs0.drew | exact .below ‹_› hs0.drew | exact .below ‹_› (.below ‹_› hs0.drew))).mono ?_); rintro e w' ⟨rfl, hb⟩))
          rename_i hh
          have HBn := Lib.hid (hB.out.trans (Below.mono (show Below wr.heap.size wr _ from hh.2.2.2.2.2.2.2.2.2.2.2.2.2.2) hB.out.size))
          clear hh HAll hs0
          go_wp2_with fail
          go_roundw
          case rel => exact ⟨kk + 1, by omega, by go_num, HBn, Lib.hid (by rw [HTk.out, hSm.out]; rfl)⟩
          case measure => simp [intOf]; omega
      case neg =>
        obtain rfl : kk = nl := by omega
        have HR : Hid (R = true) := Lib.hid (by have h := hSm.out; rw [List.take_of_length_le (by rw [← HNl.out]; exact Nat.le_refl _), List.take_of_length_le (by rw [← HNl'.out]; exact Nat.le_refl _)] at h; rw [HRt.out, h])
        clear hs0 hSm
        go_wp2_with fail
        go_ret
        exact ⟨by rw [HR.out]; rfl, HB0.out⟩
end Go.Proofs.YtbfojibhdadglaaGreatDoor
/- The reference's rowText. -/
namespace Go.Proofs.YtbfojibhdadglaaGreatDoor
open Go.RowKit

/-- a label as text -/
def lbT (x : Txt × Int) : Txt := x.1 ++ (if x.2 = 0 then [] else [64] ++ Lib.itoa x.2)
theorem flat_lab (x : Txt × Int) : (labP x).flatten = lbT x := by
  unfold labP lbT
  by_cases h : x.2 = 0
  · simp [h]
  · simp [h]
end Go.Proofs.YtbfojibhdadglaaGreatDoor
/- The tokens of a printed type: plain. -/
namespace Go.Proofs.YtbfojibhdadglaaGreatDoor
open Go.RowKit

/-- a token without its place -/
abbrev Ky := Int × Txt × Int
def kyOf (t : Tk) : Ky := (t.kind, t.s, t.n)
/-- a text has these tokens, and nothing else but space -/
def LK (l : Txt) (ks : List Ky) : Prop := ∀ f p, l.length < f → ∃ xs, lexF f p l = (xs, p + l.length) ∧ xs.map kyOf = ks
/-- a text that goes on with no letter, digit or underscore -/
def NW (r : Txt) : Prop := ∀ c q, r = c :: q → kb c = 0
theorem NW.nil : NW [] := fun _ _ h => by cases h
theorem NW.cons {c : UInt8} {q : Txt} (h : kb c = 0) : NW (c :: q) := fun a b e => by injection e with e1 _; rw [← e1]; exact h
theorem LK.nil : LK [] [] := fun f p _ => ⟨[], by rw [lexF_nil]; rfl, rfl⟩
theorem LK.sp {r : Txt} {ks : List Ky} (h : LK r ks) : LK (32 :: r) ks := fun f p hf => by
  cases f with
  | zero => omega
  | succ f =>
    obtain ⟨xs, h1, h2⟩ := h (f + 1) (p + 1) (by simp only [List.length_cons] at hf; omega)
    refine ⟨xs, ?_, h2⟩
    have hs : spLen false (32 :: r) = 1 + spLen false r := by simp [spLen]
    have e : lexF (f + 1) p (32 :: r) = lexF (f + 1) (p + 1) r := by
      have hd : ∀ k, (32 :: r).drop (1 + k) = r.drop k := fun k => by rw [Nat.add_comm, List.drop_succ_cons]
      simp only [lexF]
      rw [hs, hd, show p + (1 + spLen false r) = p + 1 + spLen false r by omega, show ∀ k, 1 + spLen false r + k = 1 + (spLen false r + k) by intro k; omega]
      simp only [hd]
    rw [e, h1, List.length_cons]
    congr 1
    omega
theorem LK.tok {x r : Txt} {k : Ky} {ks : List Ky} (h0 : x ≠ []) (hs : spLen false (x ++ r) = 0) (hp : partOf (x ++ r) = x) (ht : tokS x = some k) (h : LK r ks) : LK (x ++ r) (k :: ks) := fun f p hf => by
  cases f with
  | zero => omega
  | succ f =>
    have hx : 0 < x.length := List.length_pos_iff.2 h0
    obtain ⟨k1, k2, k3⟩ := k
    obtain ⟨xs, h1, h2⟩ := h f (p + x.length) (by rw [List.length_append] at hf; omega)
    refine ⟨⟨k1, k2, k3, p⟩ :: xs, ?_, by rw [List.map_cons, h2]; rfl⟩
    have := lexF_some (f := f) (p := p) (o := p) (l := x ++ r) (k := k1) (n := k3) (s := k2)
    simp only [lexF]
    rw [hs, List.drop_zero, hp, ht, Nat.add_zero, Nat.zero_add, List.drop_left, h1, List.length_append]
    simp only [Prod.mk.injEq, true_and]
    omega
theorem wordLen_nw {x r : Txt} (hx : ∀ c ∈ x, kb c ≠ 0) (hr : NW r) : wordLen (x ++ r) = x.length := by
  unfold wordLen
  congr 1
  induction x with
  | nil =>
    cases r with
    | nil => rfl
    | cons c q => rw [List.nil_append, List.takeWhile_cons, if_neg (by rw [hr c q rfl]; simp)]
  | cons c q ih => rw [List.cons_append, List.takeWhile_cons, if_pos (by simpa using hx c (by simp)), ih (fun y hy => hx y (by simp [hy]))]
theorem LK.word {x r : Txt} {k : Ky} {ks : List Ky} (h0 : x ≠ []) (hx : ∀ c ∈ x, kb c ≠ 0) (hr : NW r) (ht : tokS x = some k) (h : LK r ks) : LK (x ++ r) (k :: ks) := by
  refine LK.tok h0 ?_ ?_ ht h
  · cases x with
    | nil => exact absurd rfl h0
    | cons c q => exact spLen_word (hx c (by simp))
  · unfold partOf
    rw [wordLen_nw hx hr, if_neg (fun e => h0 (List.eq_nil_of_length_eq_zero e)), List.take_left]
theorem LK.sym {x : Txt} {ks : List Ky} (r : Txt) (h : LK r ks) (hx : x = [40] ∨ x = [41] ∨ x = [44] ∨ x = [60] ∨ x = [62] ∨ x = [124] ∨ x = [64] ∨ x = [45, 62]) : LK (x ++ r) ((4, x, 0) :: ks) := by
  rcases hx with rfl | rfl | rfl | rfl | rfl | rfl | rfl | rfl
  all_goals exact LK.tok (by simp) rfl rfl (by decide) h

/-- the tokens of a label, of labels with commas between, of a row -/
def labK (x : Txt × Int) : List Ky := (2, x.1, 0) :: (if x.2 = 0 then [] else [(4, [64], 0), (3, [], x.2)])
def labsK : List (Txt × Int) → List Ky
  | [] => []
  | x :: r => labK x ++ r.flatMap fun y => (4, [44], 0) :: labK y
def rowK (ls : List (Txt × Int)) (tl : Int) : List Ky := (4, [60], 0) :: (labsK ls ++ ((if tl = -1 then [] else [(4, [124], 0), (0, 114 :: Lib.itoa tl, 0)]) ++ [(4, [62], 0)]))
def midK (ls : List (Txt × Int)) (tl : Int) : List Ky := if 0 < ls.length ∨ tl ≠ -1 then rowK ls tl else []
abbrev LvK := Int × List Ky
def atK' (a : Int) (q : LvK) : List Ky := if a ≤ q.1 then q.2 else (4, [40], 0) :: (q.2 ++ [(4, [41], 0)])
def nthK (l : List LvK) (i : Nat) : LvK := l.getD i (0, [])
def nodeK (k n : Int) (s : Txt) (l : List LvK) (ls : List (Txt × Int)) (tl : Int) : List Ky :=
  if k = 0 then [(0, 116 :: Lib.itoa n, 0)] else if k = 2 then [(2, [73, 110, 116], 0)] else if k = 3 then [(2, [66, 111, 111, 108], 0)] else if k = 4 then [(2, [85, 110, 105, 116], 0)]
  else if k = 5 then atK' 1 (nthK l 0) ++ ((4, [45, 62], 0) :: (midK ls tl ++ atK' 0 (nthK l 1)))
  else (if k = 1 then (0, s, 0) else (2, s, 0)) :: l.flatMap (atK' 2)
mutual
def tyK : Ty → List Ky
  | .mk k n s l ls tl => nodeK k n s (tyKL l) ls tl
def tyKL : List Ty → List LvK
  | [] => []
  | e :: r => (lvT e.k e.l.length, tyK e) :: tyKL r
end
def Ty.kp (e : Ty) : LvK := (lvT e.k e.l.length, tyK e)
def atK (a : Int) (e : Ty) : List Ky := atK' a e.kp
theorem tyKL_map : ∀ l : List Ty, tyKL l = l.map Ty.kp
  | [] => rfl
  | e :: r => by rw [tyKL, tyKL_map r]; rfl
theorem tyK_mk (k n : Int) (s : Txt) (l : List Ty) (ls : List (Txt × Int)) (tl : Int) : tyK (.mk k n s l ls tl) = nodeK k n s (l.map Ty.kp) ls tl := by rw [tyK, tyKL_map]

theorem itoa_dig {n : Int} (h : 0 ≤ n ∧ n ≤ 999999999) : ∀ c ∈ Lib.itoa n, kb c = 3 := by
  have h1 := integerS_itoa h
  have key : ∀ (l : Txt) (m n : Int), intGo m l = some n → ∀ c ∈ l, kb c = 3 := by
    intro l
    induction l with
    | nil => intro m n _ c hc; simp at hc
    | cons x r ih =>
      intro m n hg c hc
      rw [intGo] at hg
      split at hg
      · rename_i hk
        split at hg
        · cases hg
        · rcases List.mem_cons.1 hc with rfl | hc
          · exact hk
          · exact ih _ _ hg c hc
      · cases hg
  exact key _ _ _ (integerS_some h1).2.1
/-- a letter and a number are a name -/
theorem tok_numbered {a : UInt8} {n : Int} (ha : a = 116 ∨ a = 114) (h : 0 ≤ n ∧ n ≤ 999999999) : tokS (a :: Lib.itoa n) = some (0, a :: Lib.itoa n, 0) := by
  have hd := itoa_dig h
  have hl := itoaLen9 9 n (by omega) h.1 (by omega)
  have ha1 : kb a = 1 := by rcases ha with rfl | rfl <;> decide
  refine tok_var ?_ ?_
  · show (decide ((Lib.itoa n).length < 12) && (kb a == 1) && (a :: Lib.itoa n).all (fun c => kb c != 0)) = true
    rw [Bool.and_eq_true, Bool.and_eq_true]
    refine ⟨⟨by simp; omega, by simp [ha1]⟩, ?_⟩
    rw [List.all_eq_true]
    intro c hc
    rcases List.mem_cons.1 hc with rfl | hc
    · simp [ha1]
    · simp [hd c hc]
  · have hne := (itoa_word h).1
    cases hi : Lib.itoa n with
    | nil => exact absurd hi hne
    | cons d q =>
      have hk3 : kb d = 3 := hd d (by rw [hi]; simp)
      have hno : ∀ w ∈ kwList, ∀ c ∈ w, kb c ≠ 3 := by decide
      cases hkw : isKw (a :: d :: q) with
      | false => rfl
      | true =>
        unfold isKw at hkw
        have hm : (a :: d :: q) ∈ kwList := by simpa using hkw
        exact absurd hk3 (hno _ hm d (by simp))

theorem lk_lab {x : Txt × Int} (h : isNm 2 x.1 = true) (hn : 0 ≤ x.2 ∧ x.2 ≤ 999999999) {r : Txt} {ks : List Ky} (hr : NW r) (hk : LK r ks) : LK ((labP x).flatten ++ r) (labK x ++ ks) := by
  obtain ⟨h1, h2, _⟩ := isNm_all h
  rw [flat_lab]
  unfold lbT labK
  by_cases h0 : x.2 = 0
  · rw [if_pos h0, if_pos h0, List.append_nil]
    exact LK.word h1 h2 hr (tok_upper h) hk
  · rw [if_neg h0, if_neg h0, List.append_assoc, List.append_assoc]
    refine LK.word h1 h2 (NW.cons (by decide)) (tok_upper h) ?_
    refine LK.sym (x := [64]) _ ?_ (by simp)
    exact LK.word (itoa_word hn).1 (itoa_word hn).2 hr (tok_int hn) hk
end Go.Proofs.YtbfojibhdadglaaGreatDoor
/- The reference's typeAt. -/
namespace Go.Proofs.YtbfojibhdadglaaGreatDoor
open Go.RowKit

/-- a type as text, where a level is asked for -/
def atTT (a : Int) (e : Ty) : Txt := (atP a e.lp).flatten
theorem atTT_in {a : Int} {e : Ty} (h : a ≤ lvT e.k e.l.length) : atTT a e = textT e := by
  unfold atTT atP
  rw [show e.lp = (lvT e.k e.l.length, pcsT e) from rfl, if_pos h]; rfl
theorem atTT_out {a : Int} {e : Ty} (h : ¬ a ≤ lvT e.k e.l.length) : atTT a e = [40] ++ textT e ++ [41] := by
  unfold atTT atP
  rw [show e.lp = (lvT e.k e.l.length, pcsT e) from rfl, if_neg h]
  simp [textT]

end Go.Proofs.YtbfojibhdadglaaGreatDoor
/- The reference's typeText and ShowType. -/
namespace Go.Proofs.YtbfojibhdadglaaGreatDoor
open Go.RowKit

/-- types as arguments, each behind a blank -/
def argT (l : List Ty) : Txt := l.flatMap fun e => [32] ++ atTT 2 e
theorem flat_args (l : List Ty) : (argsP (l.map Ty.lp)).flatten = argT l := by
  unfold argsP argT
  induction l with
  | nil => rfl
  | cons x r ih =>
    rw [List.map_cons, List.flatMap_cons, List.flatten_append, ih, List.flatMap_cons]
    simp [atTT]
end Go.Proofs.YtbfojibhdadglaaGreatDoor
/- The tokens of a printed type, for every well-formed one: plain. -/
namespace Go.Proofs.YtbfojibhdadglaaGreatDoor
open Go.RowKit

/-- what a well-formed node's names are -/
structure ClsT (k : Int) (s : Txt) (l : List Ty) (ls : List (Txt × Int)) : Prop where
  h1 : k = 1 → isV s = true
  h6 : k = 6 → isNm 2 s = true ∧ biT.contains s = false
  hls : ∀ x ∈ ls, isNm 2 x.1 = true
  hl : k ≠ 5 → k ≠ 6 → l = []
  h0 : k ≠ 1 → k ≠ 6 → s = []
theorem labErr_nm {x : Txt × Int} (h : labErr x = 0) : isNm 2 x.1 = true := by
  unfold labErr at h
  split at h
  · cases h
  · rename_i h1; simpa using h1
theorem clsT_of {k n : Int} {s : Txt} {l : List Ty} {ls : List (Txt × Int)} {tl : Int} (h : tyNode k n s l.length ls tl = 0) : ClsT k s l ls := by
  unfold tyNode at h
  split at h
  · cases h
  split at h
  · cases h
  rename_i h2
  split at h
  · cases h
  rename_i h3
  simp only [not_or, Bool.not_eq_false, not_and] at h2
  obtain ⟨c1, c2⟩ := h2
  refine ⟨fun e => ?_, fun e => ?_, ?_, fun e5 e6 => ?_, fun e1 e6 => ?_⟩
  · subst e; simpa [rCls, tyCls] using c1
  · subst e
    exact ⟨by simpa [rCls, tyCls] using c1, by simpa using c2 rfl⟩
  · by_cases e5 : k = 5
    · rw [if_neg (by simp [e5]), if_pos e5] at h
      unfold rowErr at h
      split at h
      · rename_i hl0
        exact fun x hx => labErr_nm (labsErr_zero hl0 x hx)
      · rename_i hl0; exact absurd h hl0
    · split at h
      · cases h
      · rename_i h4
        have : ls = [] := List.length_eq_zero_iff.1 (by omega)
        intro x hx; rw [this] at hx; simp at hx
  · exact List.length_eq_zero_iff.1 (by omega)
  · simpa [rCls, tyCls, e1, e6] using c1

theorem isV_nm {s : Txt} (h : isV s = true) : isNm 1 s = true ∧ isKw s = false := by
  unfold isV at h
  rw [Bool.and_eq_true] at h
  exact ⟨h.1, by simpa using h.2⟩
theorem lk_labs_rest : ∀ (l : List (Txt × Int)), (∀ x ∈ l, isNm 2 x.1 = true ∧ 0 ≤ x.2 ∧ x.2 ≤ 999999999) → ∀ (r : Txt) (ks : List Ky), NW r → LK r ks → NW (((l.map labP).flatMap fun y => [[44, 32]] ++ y).flatten ++ r) ∧ LK (((l.map labP).flatMap fun y => [[44, 32]] ++ y).flatten ++ r) ((l.flatMap fun y => (4, [44], 0) :: labK y) ++ ks)
  | [], _, r, ks, hr, hk => ⟨hr, hk⟩
  | x :: q, h, r, ks, hr, hk => by
    obtain ⟨i1, i2⟩ := lk_labs_rest q (fun y hy => h y (by simp [hy])) r ks hr hk
    obtain ⟨g1, g2, g3⟩ := h x (by simp)
    have e : (((x :: q).map labP).flatMap fun y => [[44, 32]] ++ y).flatten ++ r = [44] ++ (32 :: ((labP x).flatten ++ (((q.map labP).flatMap fun y => [[44, 32]] ++ y).flatten ++ r))) := by simp
    have e2 : ((x :: q).flatMap fun y => (4, [44], 0) :: labK y) ++ ks = ((4, [44], 0) : Ky) :: (labK x ++ ((q.flatMap fun y => (4, [44], 0) :: labK y) ++ ks)) := by simp
    rw [e, e2]
    exact ⟨NW.cons (by decide), LK.sym (x := [44]) _ (LK.sp (lk_lab g1 ⟨g2, g3⟩ i1 i2)) (by simp)⟩
theorem lk_labs (l : List (Txt × Int)) (h : ∀ x ∈ l, isNm 2 x.1 = true ∧ 0 ≤ x.2 ∧ x.2 ≤ 999999999) {r : Txt} {ks : List Ky} (hr : NW r) (hk : LK r ks) : LK ((labsP l).flatten ++ r) (labsK l ++ ks) := by
  cases l with
  | nil => exact hk
  | cons x q =>
    obtain ⟨i1, i2⟩ := lk_labs_rest q (fun y hy => h y (by simp [hy])) r ks hr hk
    obtain ⟨g1, g2, g3⟩ := h x (by simp)
    have e : (labsP (x :: q)).flatten ++ r = (labP x).flatten ++ (((q.map labP).flatMap fun y => [[44, 32]] ++ y).flatten ++ r) := by simp [labsP, listP]
    have e2 : labsK (x :: q) ++ ks = labK x ++ ((q.flatMap fun y => (4, [44], 0) :: labK y) ++ ks) := by simp [labsK]
    rw [e, e2]
    exact lk_lab g1 ⟨g2, g3⟩ i1 i2
theorem lk_mid (ls : List (Txt × Int)) (tl : Int) (h : ∀ x ∈ ls, isNm 2 x.1 = true ∧ 0 ≤ x.2 ∧ x.2 ≤ 999999999) (ht : -1 ≤ tl ∧ tl ≤ 999999999) {r : Txt} {ks : List Ky} (hk : LK r ks) : LK ((midP ls tl).flatten ++ r) (midK ls tl ++ ks) := by
  unfold midP midK
  by_cases h0 : 0 < ls.length ∨ tl ≠ -1
  · rw [if_pos h0, if_pos h0]
    have hend : LK ([62] ++ (32 :: r)) ((4, [62], 0) :: ks) := LK.sym (x := [62]) _ (LK.sp hk) (by simp)
    have hnend : NW ([62] ++ (32 :: r)) := NW.cons (by decide)
    unfold rowP rowK
    by_cases h1 : tl = -1
    · have e : (([[60]] ++ (labsP ls ++ (tailP ls.length tl ++ [[62]]))) ++ [[32]]).flatten ++ r = [60] ++ ((labsP ls).flatten ++ ([62] ++ (32 :: r))) := by simp [tailP, h1]
      rw [e, if_pos h1, List.nil_append]
      have e2 : (((4, [60], 0) : Ky) :: (labsK ls ++ [(4, [62], 0)])) ++ ks = (4, [60], 0) :: (labsK ls ++ ((4, [62], 0) :: ks)) := by simp
      rw [e2]
      exact LK.sym (x := [60]) _ (lk_labs ls h hnend hend) (by simp)
    · have hbar : LK ([124] ++ (32 :: ((114 :: Lib.itoa tl) ++ ([62] ++ (32 :: r))))) ((4, [124], 0) :: (0, 114 :: Lib.itoa tl, 0) :: (4, [62], 0) :: ks) := by
        refine LK.sym (x := [124]) _ (LK.sp ?_) (by simp)
        have hd := itoa_dig (n := tl) ⟨by omega, ht.2⟩
        refine LK.word (by simp) ?_ hnend (tok_numbered (.inr rfl) ⟨by omega, ht.2⟩) hend
        intro c hc
        rcases List.mem_cons.1 hc with rfl | hc
        · decide
        · rw [hd c hc]; decide
      rw [if_neg h1]
      have e2 : (((4, [60], 0) : Ky) :: (labsK ls ++ ([(4, [124], 0), (0, 114 :: Lib.itoa tl, 0)] ++ [(4, [62], 0)]))) ++ ks = (4, [60], 0) :: (labsK ls ++ ((4, [124], 0) :: (0, 114 :: Lib.itoa tl, 0) :: (4, [62], 0) :: ks)) := by simp
      rw [e2]
      by_cases h2 : ls.length = 0
      · have e : (([[60]] ++ (labsP ls ++ (tailP ls.length tl ++ [[62]]))) ++ [[32]]).flatten ++ r = [60] ++ ((labsP ls).flatten ++ ([124] ++ (32 :: ((114 :: Lib.itoa tl) ++ ([62] ++ (32 :: r)))))) := by simp [tailP, h1, h2]
        rw [e]
        exact LK.sym (x := [60]) _ (lk_labs ls h (NW.cons (by decide)) hbar) (by simp)
      · have e : (([[60]] ++ (labsP ls ++ (tailP ls.length tl ++ [[62]]))) ++ [[32]]).flatten ++ r = [60] ++ ((labsP ls).flatten ++ (32 :: ([124] ++ (32 :: ((114 :: Lib.itoa tl) ++ ([62] ++ (32 :: r))))))) := by simp [tailP, h1, h2]
        rw [e]
        exact LK.sym (x := [60]) _ (lk_labs ls h (NW.cons (by decide)) (LK.sp hbar)) (by simp)
  · rw [if_neg h0, if_neg h0]
    exact hk

theorem textT_args' {k n : Int} {s : Txt} {l : List Ty} {ls : List (Txt × Int)} {tl : Int} (hk : k = 1 ∨ k = 6) : textT (.mk k n s l ls tl) = s ++ argT l := by
  unfold textT
  rw [pcsT_mk]
  unfold tyP
  rw [if_neg (by omega), if_neg (by omega), if_neg (by omega), if_neg (by omega), if_neg (by omega), List.flatten_append, flat_args]
  simp
/-- what is asked of a type's text -/
def LkTy (e : Ty) : Prop := ∀ (r : Txt) (ks : List Ky), NW r → LK r ks → LK (textT e ++ r) (tyK e ++ ks)
theorem lk_at {e : Ty} (h : LkTy e) (a : Int) {r : Txt} {ks : List Ky} (hr : NW r) (hk : LK r ks) : LK (atTT a e ++ r) (atK a e ++ ks) := by
  unfold atK atK'
  by_cases hc : a ≤ lvT e.k e.l.length
  · rw [atTT_in hc, show e.kp = (lvT e.k e.l.length, tyK e) from rfl, if_pos hc]
    exact h r ks hr hk
  · rw [atTT_out hc, show e.kp = (lvT e.k e.l.length, tyK e) from rfl, if_neg hc]
    have e1 : [40] ++ textT e ++ [41] ++ r = [40] ++ (textT e ++ ([41] ++ r)) := by simp
    have e2 : (((4, [40], 0) : Ky) :: (tyK e ++ [(4, [41], 0)])) ++ ks = (4, [40], 0) :: (tyK e ++ ((4, [41], 0) :: ks)) := by simp
    rw [e1, e2]
    exact LK.sym (x := [40]) _ (h _ _ (NW.cons (by decide)) (LK.sym (x := [41]) _ hk (by simp))) (by simp)
theorem nthK_kp {l : List Ty} {i : Nat} {e : Ty} (h : l[i]? = some e) : nthK (l.map Ty.kp) i = e.kp := by unfold nthK; rw [List.getD_eq_getElem?_getD, List.getElem?_map, h]; rfl
theorem lk_args : ∀ (l : List Ty), (∀ e ∈ l, LkTy e) → ∀ (r : Txt) (ks : List Ky), NW r → LK r ks → NW (argT l ++ r) ∧ LK (argT l ++ r) (((l.map Ty.kp).flatMap (atK' 2)) ++ ks)
  | [], _, r, ks, hr, hk => ⟨hr, hk⟩
  | x :: q, h, r, ks, hr, hk => by
    obtain ⟨i1, i2⟩ := lk_args q (fun y hy => h y (by simp [hy])) r ks hr hk
    have e : argT (x :: q) ++ r = 32 :: (atTT 2 x ++ (argT q ++ r)) := by simp [argT]
    have e2 : (((x :: q).map Ty.kp).flatMap (atK' 2)) ++ ks = atK 2 x ++ (((q.map Ty.kp).flatMap (atK' 2)) ++ ks) := by simp [atK]
    rw [e, e2]
    exact ⟨NW.cons (by decide), LK.sp (lk_at (h x (by simp)) 2 i1 i2)⟩
theorem lk_ty : ∀ e, tyErr e = 0 → LkTy e := by
  refine Ty.ind fun e ih h r ks hr hk => ?_
  cases e with
  | mk k n s l ls tl =>
  obtain ⟨hN, hp⟩ := tyErr_zero h
  have hC : ClsT k s l ls := by
    rw [tyErr] at h
    split at h
    · rename_i h0; exact clsT_of h0
    · rename_i h0; exact absurd h h0
  have hA : ∀ x ∈ l, LkTy x := fun x hx => ih x hx (hp x hx)
  rw [tyK_mk]
  unfold nodeK
  by_cases h0 : k = 0
  · have e : textT (.mk k n s l ls tl) = 116 :: Lib.itoa n := by unfold textT; rw [pcsT_mk]; simp [tyP, h0]
    rw [e, if_pos h0]
    have hd := itoa_dig hN.hn
    refine LK.word (by simp) ?_ hr (tok_numbered (.inl rfl) hN.hn) hk
    intro c hc
    rcases List.mem_cons.1 hc with rfl | hc
    · decide
    · rw [hd c hc]; decide
  rw [if_neg h0]
  by_cases h2 : k = 2
  · have e : textT (.mk k n s l ls tl) = [73, 110, 116] := by unfold textT; rw [pcsT_mk]; simp [tyP, h2]
    rw [e, if_pos h2]
    exact LK.word (by simp) (by decide) hr (by decide) hk
  rw [if_neg h2]
  by_cases h3 : k = 3
  · have e : textT (.mk k n s l ls tl) = [66, 111, 111, 108] := by unfold textT; rw [pcsT_mk]; simp [tyP, h3]
    rw [e, if_pos h3]
    exact LK.word (by simp) (by decide) hr (by decide) hk
  rw [if_neg h3]
  by_cases h4 : k = 4
  · have e : textT (.mk k n s l ls tl) = [85, 110, 105, 116] := by unfold textT; rw [pcsT_mk]; simp [tyP, h4]
    rw [e, if_pos h4]
    exact LK.word (by simp) (by decide) hr (by decide) hk
  rw [if_neg h4]
  by_cases h5 : k = 5
  · subst h5
    rw [if_pos rfl]
    have hl2 := hN.hl.1 rfl
    match l, hl2, hA with
    | [e0, e1], _, hA =>
      rw [nthK_kp (i := 0) (e := e0) rfl, nthK_kp (i := 1) (e := e1) rfl]
      have e : textT (.mk 5 n s [e0, e1] ls tl) ++ r = atTT 1 e0 ++ (32 :: ([45, 62] ++ (32 :: ((midP ls tl).flatten ++ (atTT 0 e1 ++ r))))) := by
        unfold textT
        rw [pcsT_mk]
        unfold tyP
        rw [if_neg (by decide), if_neg (by decide), if_neg (by decide), if_neg (by decide), if_pos rfl]
        show (atP 1 e0.lp ++ ([[32, 45, 62, 32]] ++ (midP ls tl ++ atP 0 e1.lp))).flatten ++ r = _
        simp [atTT]
      have e2 : (atK' 1 e0.kp ++ ((4, [45, 62], 0) :: (midK ls tl ++ atK' 0 e1.kp))) ++ ks = atK 1 e0 ++ ((4, [45, 62], 0) :: (midK ls tl ++ (atK 0 e1 ++ ks))) := by simp [atK]
      rw [e, e2]
      refine lk_at (hA e0 (by simp)) 1 (NW.cons (by decide)) (LK.sp (LK.sym (x := [45, 62]) _ (LK.sp ?_) (by simp)))
      exact lk_mid ls tl (fun x hx => ⟨hC.hls x hx, (hN.hls x hx).2⟩) hN.htl (lk_at (hA e1 (by simp)) 0 hr hk)
  rw [if_neg h5]
  have hk16 : k = 1 ∨ k = 6 := by have := hN.hk; omega
  rw [textT_args' hk16]
  obtain ⟨i1, i2⟩ := lk_args l hA r ks hr hk
  rw [List.append_assoc]
  rcases hk16 with rfl | rfl
  · obtain ⟨g1, g2⟩ := isV_nm (hC.h1 rfl)
    obtain ⟨q1, q2, _⟩ := isNm_all g1
    rw [if_pos rfl]
    exact LK.word q1 q2 i1 (tok_var g1 g2) i2
  · obtain ⟨q1, q2, _⟩ := isNm_all (hC.h6 rfl).1
    rw [if_neg (by decide)]
    exact LK.word q1 q2 i1 (tok_upper (hC.h6 rfl).1) i2
/-- what Lex answers for a printed type -/
theorem lexS_ty {e : Ty} (h : tyErr e = 0) (hl : (textT e).length ≤ 30000) : ∃ xs, lexS (textT e) = (xs, 0, 0) ∧ xs.map kyOf = tyK e := by
  obtain ⟨xs, h1, h2⟩ := lk_ty e h [] [] NW.nil LK.nil ((textT e).length + 1) 0 (by rw [List.append_nil]; omega)
  rw [List.append_nil] at h1 h2
  refine ⟨xs, ?_, h2⟩
  unfold lexS
  rw [if_neg (by omega), h1, if_neg (by simp)]
end Go.Proofs.YtbfojibhdadglaaGreatDoor
/- The tokens of a printed type, as the parser meets them. -/
namespace Go.Proofs.YtbfojibhdadglaaGreatDoor
open Go.RowKit

/-- these tokens lie there -/
def KAt (ts : List Rt) (nx : Nat) (ks : List Ky) : Prop := ∀ (j : Nat) (k : Ky), ks[j]? = some k → ∃ t, ts[nx + j]? = some t ∧ t.k = k.1 ∧ t.s = k.2.1 ∧ t.n = k.2.2
theorem KAt.left {ts : List Rt} {nx : Nat} {a b : List Ky} (h : KAt ts nx (a ++ b)) : KAt ts nx a := fun j k hj => h j k (by rw [List.getElem?_append_left (List.getElem?_eq_some_iff.1 hj).1]; exact hj)
theorem KAt.right {ts : List Rt} {nx : Nat} {a b : List Ky} (h : KAt ts nx (a ++ b)) : KAt ts (nx + a.length) b := fun j k hj => by
  have := h (a.length + j) k (by rw [List.getElem?_append_right (by omega), Nat.add_sub_cancel_left]; exact hj)
  rwa [← Nat.add_assoc] at this
theorem KAt.tail {ts : List Rt} {nx : Nat} {k : Ky} {r : List Ky} (h : KAt ts nx (k :: r)) : KAt ts (nx + 1) r := KAt.right (a := [k]) h
theorem KAt.head {ts : List Rt} {nx : Nat} {k : Ky} {r : List Ky} (h : KAt ts nx (k :: r)) : ∃ t, ts[nx]? = some t ∧ t.k = k.1 ∧ t.s = k.2.1 ∧ t.n = k.2.2 := h 0 k rfl

def sepK (kk : Nat) : List Ky := if kk = 0 then [] else [(4, [44], 0)]
def moreK (r : List (Txt × Int)) : List Ky := r.flatMap fun y => (4, [44], 0) :: labK y
theorem labsK_snoc : ∀ (A : List (Txt × Int)) (x : Txt × Int), labsK (A ++ [x]) = labsK A ++ (sepK A.length ++ labK x)
  | [], x => by simp [labsK, sepK]
  | y :: r, x => by
    rw [List.cons_append]
    show labK y ++ (r ++ [x]).flatMap _ = (labK y ++ r.flatMap _) ++ _
    rw [List.flatMap_append]
    simp [sepK]
theorem moreK_head (r : List (Txt × Int)) : moreK r = [] ∨ ∃ q, moreK r = (4, [44], 0) :: q := by
  cases r with
  | nil => exact .inl rfl
  | cons x q => exact .inr ⟨labK x ++ moreK q, rfl⟩
theorem labsK_app : ∀ (A r : List (Txt × Int)), A ≠ [] → labsK (A ++ r) = labsK A ++ moreK r
  | [], r, h => absurd rfl h
  | y :: q, r, _ => by
    rw [List.cons_append]
    show labK y ++ (q ++ r).flatMap _ = (labK y ++ q.flatMap _) ++ moreK r
    rw [List.flatMap_append, List.append_assoc]
    rfl
theorem labsK_split {L : List (Txt × Int)} {kk : Nat} {x : Txt × Int} (h : L[kk]? = some x) : labsK L = labsK (L.take kk) ++ (sepK kk ++ (labK x ++ moreK (L.drop (kk + 1)))) := by
  have hl := (List.getElem?_eq_some_iff.1 h).1
  have hx : L = (L.take kk ++ [x]) ++ L.drop (kk + 1) := by
    have h1 : L.take (kk + 1) = L.take kk ++ [x] := by rw [List.take_add_one, h]; rfl
    rw [← h1, List.take_append_drop]
  have hlen : (L.take kk).length = kk := by rw [List.length_take]; omega
  rw [show labsK L = labsK ((L.take kk ++ [x]) ++ L.drop (kk + 1)) by rw [← hx], labsK_app _ _ (by simp), labsK_snoc, hlen]
  simp
/-- where the labels' list stands behind kk labels -/
def labHd (L : List (Txt × Int)) (nx kk : Nat) : Nat := nx + (labsK (L.take kk)).length
theorem labHd_succ {L : List (Txt × Int)} {nx kk : Nat} {x : Txt × Int} (h : L[kk]? = some x) : labHd L nx (kk + 1) = labHd L nx kk + ((sepK kk).length + (labK x).length) := by
  have hl := (List.getElem?_eq_some_iff.1 h).1
  have hlen : (L.take kk).length = kk := by rw [List.length_take]; omega
  unfold labHd
  have h1 : L.take (kk + 1) = L.take kk ++ [x] := by rw [List.take_add_one, h]; rfl
  rw [h1, labsK_snoc, hlen, List.length_append, List.length_append]; omega
theorem nm_ne {f : Int} {s : Txt} (h : isNm f s = true) (c : UInt8) (hc : kb c = 0) : s ≠ [c] := by
  rintro rfl
  exact (isNm_all h).2.1 c (by simp) hc

set_option maxRecDepth 100000 in
theorem labels_any (b g go c z : Nat) (ts : List Rt) (nx dp : Nat) (L : List (Txt × Int)) (w : World) (h : PS w b g go c ts nx dp) (hz : Ends w z) (hlen : ts.length ≤ 100000) (hL : L.length ≤ 100000)
    (hk : KAt ts nx (labsK L)) (hn : ∀ x ∈ L, isNm 2 x.1 = true ∧ 0 ≤ x.2 ∧ x.2 ≤ 999999999) (hend : ∃ t, ts[nx + (labsK L).length]? = some t ∧ (t.s = [124] ∨ t.s = [62])) :
    Calls Tryz.prog 116 #[.pointer (some ⟨b, 0, none⟩), .string ⟨#[44]⟩, .func (.func 117) #[.pointer (some ⟨b, 0, none⟩)] #[], .slice (some ⟨z, 0, none⟩) 2 2] w (SepTo w b g go c ts (nx + (labsK L).length) dp L) := by
  have hfull : labHd L nx L.length = nx + (labsK L).length := by unfold labHd; rw [List.take_length]
  have hst : ∀ kk x, L[kk]? = some x → KAt ts (labHd L nx kk) (sepK kk ++ (labK x ++ moreK (L.drop (kk + 1)))) := fun kk x hx => by
    have := hk
    rw [labsK_split hx] at this
    exact this.right
  have hafter : ∀ kk x, L[kk]? = some x → ∃ t, ts[labHd L nx (kk + 1)]? = some t ∧ t.s ≠ [64] := fun kk x hx => by
    have hs := (hst kk x hx).right.right
    rw [labHd_succ hx, ← Nat.add_assoc]
    rcases moreK_head (L.drop (kk + 1)) with e | ⟨q, e⟩
    · have hl := (List.getElem?_eq_some_iff.1 hx).1
      have : L.length = kk + 1 := by
        have h2 : (L.drop (kk + 1)).length = 0 := by
          cases hd : L.drop (kk + 1) with
          | nil => rfl
          | cons y r => rw [hd] at e; simp [moreK] at e
        rw [List.length_drop] at h2; omega
      obtain ⟨t, ht, hts⟩ := hend
      rw [← hfull, this, labHd_succ hx, ← Nat.add_assoc] at ht
      exact ⟨t, ht, by rcases hts with e | e <;> rw [e] <;> decide⟩
    · rw [e] at hs
      obtain ⟨t, ht, _, h2, _⟩ := hs.head
      exact ⟨t, ht, by rw [h2]; decide⟩
  have := sep_any b g go c z ts nx dp L (labHd L nx) w h hz (by unfold labHd; simp [labsK]) hL hlen ?_ ?_ ?_ ?_
  · rw [hfull] at this; exact this
  · intro kk x hx w' hp
    have hs := hst kk x hx
    have hsl : (if kk = 0 then nx else labHd L nx kk + 1) = labHd L nx kk + (sepK kk).length := by
      unfold sepK
      by_cases h0 : kk = 0
      · subst h0; simp [labHd, labsK]
      · rw [if_neg h0, if_neg h0]; rfl
    have hl := hs.right.left
    obtain ⟨ta, hta, hsa⟩ := hafter kk x hx
    have hxn := hn x (List.mem_of_getElem? hx)
    rw [hsl] at hp
    rw [labHd_succ hx, ← Nat.add_assoc] at hta ⊢
    unfold labK at hl hta ⊢
    by_cases h0 : x.2 = 0
    · rw [if_pos h0] at hl hta ⊢
      obtain ⟨t, ht, k1, k2, _⟩ := hl.head
      have := label_plain b g go c ts _ dp t ta w' hp ht k1 hta hsa hlen
      rw [k2] at this
      rw [h0]
      exact this
    · rw [if_neg h0] at hl hta ⊢
      obtain ⟨t, ht, k1, k2, _⟩ := hl.head
      obtain ⟨t1, ht1, _, k3, _⟩ := hl.tail.head
      obtain ⟨t2, ht2, k4, _, k5⟩ := hl.tail.tail.head
      have := label_at b g go c ts _ dp t t1 t2 w' hp ht k1 ht1 k3 ht2 k4 (by rw [k5]; exact h0) hlen
      rw [k2, k5] at this
      exact this
  · intro kk h0 hkl
    have hs := (hst kk _ (List.getElem?_eq_getElem hkl)).left
    unfold sepK at hs
    rw [if_neg (by omega)] at hs
    obtain ⟨t, ht, _, h2, _⟩ := hs.head
    exact ⟨t, ht, h2⟩
  · intro h0
    have hs := (hst 0 _ (List.getElem?_eq_getElem h0)).right.left
    have hxn := hn _ (List.getElem_mem h0)
    unfold labK at hs
    obtain ⟨t, ht, _, h2, _⟩ := hs.head
    refine ⟨t, by simpa [labHd, labsK, sepK] using ht, ?_, ?_⟩
    · rw [h2]; exact nm_ne hxn.1 124 (by decide)
    · rw [h2]; exact nm_ne hxn.1 62 (by decide)
  · rw [hfull]; exact hend
end Go.Proofs.YtbfojibhdadglaaGreatDoor
/- Every printed type is read. -/
namespace Go.Proofs.YtbfojibhdadglaaGreatDoor
open Go.RowKit

theorem row_read (b g go c : Nat) (ts : List Rt) (nx dp : Nat) (ls : List (Txt × Int)) (tl : Int) (w : World) (h : PS w b g go c ts nx dp) (hY : SyB w b) (hlen : ts.length ≤ 100000) (hL : ls.length ≤ 100000)
    (hk : KAt ts nx (midK ls tl)) (hn : ∀ x ∈ ls, isNm 2 x.1 = true ∧ 0 ≤ x.2 ∧ x.2 ≤ 999999999) (htl : -1 ≤ tl ∧ tl ≤ 999999999) (hnext : ∃ t, ts[nx + (midK ls tl).length]? = some t ∧ t.s ≠ [60]) :
    Calls Tryz.prog 72 #[.pointer (some ⟨b, 0, none⟩)] w (RowTo w b g go c ts (nx + (midK ls tl).length) dp ls tl) := by
  unfold midK at hk hnext ⊢
  by_cases h0 : 0 < ls.length ∨ tl ≠ -1
  · rw [if_pos h0] at hk hnext ⊢
    unfold rowK at hk hnext ⊢
    obtain ⟨t, ht, _, hs, _⟩ := hk.head
    have hk1 := hk.tail
    have hlab := hk1.left
    have hrest := hk1.right
    have hend : ∃ t, ts[nx + 1 + (labsK ls).length]? = some t ∧ (t.s = [124] ∨ t.s = [62]) := by
      by_cases h1 : tl = -1
      · rw [if_pos h1] at hrest
        obtain ⟨t, ht, _, hs, _⟩ := (show KAt _ _ (_ :: _) from hrest).head
        exact ⟨t, ht, .inr hs⟩
      · rw [if_neg h1] at hrest
        obtain ⟨t, ht, _, hs, _⟩ := (show KAt _ _ (_ :: _) from hrest).head
        exact ⟨t, ht, .inl hs⟩
    have HSep : Hid (∀ z w', PS w' b g go c ts (nx + 1) dp → Ends w' z → Calls Tryz.prog 116 #[.pointer (some ⟨b, 0, none⟩), .string ⟨#[44]⟩, .func (.func 117) #[.pointer (some ⟨b, 0, none⟩)] #[], .slice (some ⟨z, 0, none⟩) 2 2] w' (SepTo w' b g go c ts (nx + 1 + (labsK ls).length) dp ls)) :=
      Lib.hid fun z w' hp hz => labels_any b g go c z ts (nx + 1) dp ls w' hp hz hlen hL hlab hn hend
    by_cases h1 : tl = -1
    · subst h1
      rw [if_pos rfl] at hrest
      obtain ⟨t1, ht1, _, hs1, _⟩ := (show KAt _ _ (_ :: _) from hrest).head
      have := row_plain b g go c ts nx _ dp t t1 ls w h ht hs ht1 hs1 hlen HSep
      rw [if_pos rfl]
      rwa [show nx + ((4, [60], 0) :: (labsK ls ++ ([] ++ [(4, [62], 0)])) : List Ky).length = nx + 1 + (labsK ls).length + 1 by simp; omega]
    · rw [if_neg h1] at hrest
      obtain ⟨t1, ht1, _, hs1, _⟩ := (show KAt _ _ (_ :: _) from hrest).head
      obtain ⟨t2, ht2, _, hs2, _⟩ := (show KAt _ _ (_ :: _ :: _) from hrest).tail.head
      obtain ⟨t3, ht3, _, hs3, _⟩ := (show KAt _ _ (_ :: _ :: _ :: []) from hrest).tail.tail.head
      have := row_tail b g go c ts nx _ dp t t1 t2 t3 ls w h ht hs ht1 hs1 ht2 tl hs2 ⟨by omega, htl.2⟩ ht3 hs3 hY hlen HSep
      rw [if_neg h1]
      rwa [show nx + ((4, [60], 0) :: (labsK ls ++ ([(4, [124], 0), (0, 114 :: Lib.itoa tl, 0)] ++ [(4, [62], 0)])) : List Ky).length = nx + 1 + (labsK ls).length + 1 + 1 + 1 by simp; omega]
  · rw [if_neg h0] at hnext ⊢
    obtain ⟨t, ht, hs⟩ := hnext
    simp only [not_or, Nat.not_lt, Nat.le_zero, ne_eq, Classical.not_not] at h0
    obtain ⟨hl0, rfl⟩ := h0
    have : ls = [] := List.length_eq_zero_iff.1 hl0
    subst this
    simp only [List.length_nil, Nat.add_zero] at ht ⊢
    refine (row_none b g go c ts nx dp t w h ht hs).mono ?_
    rintro e w' ⟨rfl, hw⟩
    exact ⟨none, 0, rfl, fun h => absurd rfl h, ⟨Nat.le_refl _, by unfold maxLen; omega⟩, hw⟩

/-- no single type begins here -/
def F1 (ts : List Rt) (nx : Nat) : Prop := ∃ t, ts[nx]? = some t ∧ t.k ≠ 2 ∧ t.k ≠ 0 ∧ t.s ≠ [40]
/-- nor does an arrow stand here -/
def F0 (ts : List Rt) (nx : Nat) : Prop := ∃ t, ts[nx]? = some t ∧ t.k ≠ 2 ∧ t.k ≠ 0 ∧ t.s ≠ [40] ∧ t.s ≠ [45, 62]
theorem F0.f1 {ts : List Rt} {nx : Nat} (h : F0 ts nx) : F1 ts nx := by
  obtain ⟨t, h1, h2, h3, h4, _⟩ := h
  exact ⟨t, h1, h2, h3, h4⟩
/-- a type that is read by its rule, by the rule applied, by the rule single -/
def RdFull (e : Ty) : Prop := ∀ (b g go c : Nat) (ts : List Rt) (nx dp : Nat) (w : World), PS w b g go c ts nx dp → SyB w b → ts.length ≤ 100000 → KAt ts nx (tyK e) → F0 ts (nx + (tyK e).length) → dp + hT e ≤ 400 →
  Calls Tryz.prog 23 #[.pointer (some ⟨b, 0, none⟩)] w (TyTo w b g go c ts (nx + (tyK e).length) dp e)
def RdAp (e : Ty) : Prop := ∀ (b g go c : Nat) (ts : List Rt) (nx dp : Nat) (w : World), PS w b g go c ts nx dp → SyB w b → ts.length ≤ 100000 → KAt ts nx (atK 1 e) → F1 ts (nx + (atK 1 e).length) → dp + hT e ≤ (if e.k = 5 then 400 else 401) →
  Calls Tryz.prog 70 #[.pointer (some ⟨b, 0, none⟩)] w (TyTo w b g go c ts (nx + (atK 1 e).length) dp e)
def RdSi (e : Ty) : Prop := ∀ (b g go c : Nat) (ts : List Rt) (nx dp : Nat) (w : World), PS w b g go c ts nx dp → SyB w b → ts.length ≤ 100000 → KAt ts nx (atK 2 e) → dp + hT e ≤ 400 →
  Calls Tryz.prog 114 #[.pointer (some ⟨b, 0, none⟩)] w (TyTo w b g go c ts (nx + (atK 2 e).length) dp e)
theorem si_data (b g go c : Nat) (ts : List Rt) (nx dp : Nat) (t : Rt) (w : World) (h : PS w b g go c ts nx dp) (hY : SyB w b) (hlen : ts.length ≤ 100000) (ht : ts[nx]? = some t) (hk : t.k = 2) (hb : biT.contains t.s = false) (hs : okS t.s) :
    Calls Tryz.prog 114 #[.pointer (some ⟨b, 0, none⟩)] w (TyTo w b g go c ts (nx + 1) dp (.mk 6 0 t.s [] [] 0)) :=
  single_upper b g go c ts nx dp t 6 0 t.s w h ht hk hlen hY ⟨okN_small (by omega), okN_small (by omega), hs⟩ (Lib.hid fun w' _ _ => namedType_data t.s w' hb)
theorem si_bi (b g go c : Nat) (ts : List Rt) (nx dp : Nat) (t : Rt) (w : World) (h : PS w b g go c ts nx dp) (hY : SyB w b) (hlen : ts.length ≤ 100000) (ht : ts[nx]? = some t) (hk : t.k = 2) (hb : biT.contains t.s = true) (hs : okN (btRes t.s)) :
    Calls Tryz.prog 114 #[.pointer (some ⟨b, 0, none⟩)] w (TyTo w b g go c ts (nx + 1) dp (.mk (btRes t.s) 0 [] [] [] 0)) :=
  single_upper b g go c ts nx dp t (btRes t.s) 0 [] w h ht hk hlen hY ⟨hs, okN_small (by omega), okS_nil⟩ (Lib.hid fun w' _ _ => namedType_bi t.s w' hb)
theorem si_num (b g go c : Nat) (ts : List Rt) (nx dp : Nat) (t : Rt) (n : Int) (w : World) (h : PS w b g go c ts nx dp) (hY : SyB w b) (hlen : ts.length ≤ 100000) (ht : ts[nx]? = some t) (hk : t.k = 0) (hs : t.s = 116 :: Lib.itoa n) (hn : 0 ≤ n ∧ n ≤ 999999999) :
    Calls Tryz.prog 114 #[.pointer (some ⟨b, 0, none⟩)] w (TyTo w b g go c ts (nx + 1) dp (.mk 0 n [] [] [] 0)) :=
  single_lower b g go c ts nx dp t 0 n [] w h ht hk hlen hY ⟨okN_small (by omega), by unfold okN; omega, okS_nil⟩ (Lib.hid fun w' hp hy => variable_num b g go c ts (nx + 1) dp t.s n w' hp (by rw [hs]; exact nb_num 116 hn) hy)
theorem si_par (b g go c : Nat) (ts : List Rt) (nx dp : Nat) (t : Rt) (w : World) (h : PS w b g go c ts nx dp) (hY : SyB w b) (hlen : ts.length ≤ 100000) (ht : ts[nx]? = some t) (hk : t.k = 0) (hs : isNm 1 t.s = true) (hn : numP t.s = false) :
    Calls Tryz.prog 114 #[.pointer (some ⟨b, 0, none⟩)] w (TyTo w b g go c ts (nx + 1) dp (.mk 1 0 t.s [] [] 0)) :=
  single_lower b g go c ts nx dp t 1 0 t.s w h ht hk hlen hY ⟨okN_small (by omega), okN_small (by omega), by have := (isNm_all hs).2.2.1; unfold okS maxLen; omega⟩ (Lib.hid fun w' hp hy => variable_par b g go c ts (nx + 1) dp t.s 0 w' hp (nb_not hs hn) hy)
end Go.Proofs.YtbfojibhdadglaaGreatDoor
/- Every printed type is read: by induction. -/
namespace Go.Proofs.YtbfojibhdadglaaGreatDoor
open Go.RowKit

mutual
/-- some parameter is called as a variable is printed -/
def conf : Ty → Bool
  | .mk k _ s l _ _ => (decide (k = 1) && numP s) || confL l
def confL : List Ty → Bool
  | [] => false
  | e :: r => conf e || confL r
end
theorem confL_mem : ∀ {l : List Ty}, confL l = false → ∀ x ∈ l, conf x = false
  | [], _, x, hx => by simp at hx
  | e :: r, h, x, hx => by
    rw [confL, Bool.or_eq_false_iff] at h
    rcases List.mem_cons.1 hx with rfl | hx
    · exact h.1
    · exact confL_mem h.2 x hx
theorem ty_n0 {k n : Int} {s : Txt} {l : List Ty} {ls : List (Txt × Int)} {tl : Int} (h : tyErr (.mk k n s l ls tl) = 0) : k ≠ 0 → n = 0 := by
  intro hk
  have h0 : tyNode k n s l.length ls tl = 0 := by
    rw [tyErr] at h
    split at h
    · rename_i h0; exact h0
    · rename_i h0; exact absurd h h0
  unfold tyNode at h0
  split at h0
  · cases h0
  · rename_i h1
    simp only [not_or, not_and, Classical.not_not] at h1
    exact h1.2.2 hk
theorem ty_cls {k n : Int} {s : Txt} {l : List Ty} {ls : List (Txt × Int)} {tl : Int} (h : tyErr (.mk k n s l ls tl) = 0) : ClsT k s l ls := by
  rw [tyErr] at h
  split at h
  · rename_i h0; exact clsT_of h0
  · rename_i h0; exact absurd h h0
theorem atK_in {a : Int} {e : Ty} (h : a ≤ lvT e.k e.l.length) : atK a e = tyK e := by
  unfold atK atK'
  rw [show e.kp = (lvT e.k e.l.length, tyK e) from rfl, if_pos h]
theorem atK_out {a : Int} {e : Ty} (h : ¬ a ≤ lvT e.k e.l.length) : atK a e = (4, [40], 0) :: (tyK e ++ [(4, [41], 0)]) := by
  unfold atK atK'
  rw [show e.kp = (lvT e.k e.l.length, tyK e) from rfl, if_neg h]
/-- how the tokens begin -/
def Beg (ks : List Ky) : Prop := ∃ k r, ks = k :: r ∧ (k.1 = 2 ∨ k.1 = 0 ∨ k.2.1 = [40]) ∧ k.2.1 ≠ [60]
theorem Beg.app {a b : List Ky} (h : Beg a) : Beg (a ++ b) := by
  obtain ⟨k, r, rfl, h1, h2⟩ := h
  exact ⟨k, r ++ b, rfl, h1, h2⟩
theorem beg_at {e : Ty} (h : Beg (tyK e)) (a : Int) : Beg (atK a e) := by
  by_cases hc : a ≤ lvT e.k e.l.length
  · rw [atK_in hc]; exact h
  · rw [atK_out hc]; exact ⟨_, _, rfl, .inr (.inr rfl), by decide⟩
theorem fun_tyK {n : Int} {s : Txt} {e0 e1 : Ty} {ls : List (Txt × Int)} {tl : Int} : tyK (.mk 5 n s [e0, e1] ls tl) = atK 1 e0 ++ ((4, [45, 62], 0) :: (midK ls tl ++ atK 0 e1)) := by
  rw [tyK_mk]
  unfold nodeK
  rw [if_neg (by decide), if_neg (by decide), if_neg (by decide), if_neg (by decide), if_pos rfl]
  rfl
theorem beg_ty : ∀ e, tyErr e = 0 → Beg (tyK e) := by
  refine Ty.ind fun e ih h => ?_
  cases e with
  | mk k n s l ls tl =>
  obtain ⟨hN, hp⟩ := tyErr_zero h
  have hC := ty_cls h
  have hk := hN.hk
  by_cases h5 : k = 5
  · subst h5
    match l, hN.hl.1 rfl, ih, hp with
    | [e0, e1], _, ih, hp =>
      rw [fun_tyK]
      exact (beg_at (ih e0 (by simp [Ty.l]) (hp e0 (by simp))) 1).app
  rw [tyK_mk]
  unfold nodeK
  by_cases h0 : k = 0
  · rw [if_pos h0]; exact ⟨_, _, rfl, .inr (.inl rfl), by simp⟩
  rw [if_neg h0]
  by_cases h2 : k = 2
  · rw [if_pos h2]; exact ⟨_, _, rfl, .inl rfl, by simp⟩
  rw [if_neg h2]
  by_cases h3 : k = 3
  · rw [if_pos h3]; exact ⟨_, _, rfl, .inl rfl, by simp⟩
  rw [if_neg h3]
  by_cases h4 : k = 4
  · rw [if_pos h4]; exact ⟨_, _, rfl, .inl rfl, by simp⟩
  rw [if_neg h4, if_neg h5]
  by_cases h1 : k = 1
  · rw [if_pos h1]; exact ⟨_, _, rfl, .inr (.inl rfl), nm_ne (isV_nm (hC.h1 h1)).1 60 (by decide)⟩
  · rw [if_neg h1]; exact ⟨_, _, rfl, .inl rfl, nm_ne (hC.h6 (by omega)).1 60 (by decide)⟩

/-- in parentheses -/
theorem si_paren {e : Ty} (hF : RdFull e) (hc : ¬ 2 ≤ lvT e.k e.l.length) : RdSi e := by
  intro b g go c ts nx dp w h hY hlen hk hd
  rw [atK_out hc] at hk ⊢
  obtain ⟨t, ht, k1, k2, _⟩ := hk.head
  have hkt := hk.tail
  obtain ⟨t1, ht1, k3, k4, _⟩ := hkt.right.head
  have := single_paren b g go c ts nx (nx + 1 + (tyK e).length) dp t t1 e w h ht (by rw [k1]; decide) (by rw [k1]; decide) k2 ht1 k4 hlen
    (Lib.hid fun w' hg hp => hF b g go c ts (nx + 1) dp w' hp (hY.grown hg) hlen hkt.left ⟨t1, ht1, by rw [k3]; decide, by rw [k3]; decide, by rw [k4]; decide, by rw [k4]; decide⟩ hd)
  rwa [show nx + ((4, [40], 0) :: (tyK e ++ [(4, [41], 0)]) : List Ky).length = nx + 1 + (tyK e).length + 1 by simp; omega]
theorem ap_paren {e : Ty} (hS : RdSi e) (hc : ¬ 1 ≤ lvT e.k e.l.length) (h5 : e.k = 5) : RdAp e := by
  intro b g go c ts nx dp w h hY hlen hk hf hd
  have e12 : atK 1 e = atK 2 e := by rw [atK_out hc, atK_out (by omega)]
  rw [if_pos h5] at hd
  rw [e12] at hk ⊢
  have hk0 := hk
  rw [atK_out (by omega)] at hk0
  obtain ⟨t, ht, k1, k2, _⟩ := hk0.head
  exact applied_low b g go c ts nx _ dp t e w h ht (by rw [k1]; decide) (Lib.hid fun w' hg hp => hS b g go c ts nx dp w' hp (hY.grown hg) hlen hk hd)
/-- a function's type -/
theorem full_fun {n : Int} {s : Txt} {e0 e1 : Ty} {ls : List (Txt × Int)} {tl : Int} (h : tyErr (.mk 5 n s [e0, e1] ls tl) = 0) (hls : ls.length ≤ 100000) (h0 : RdAp e0) (h1 : RdFull e1) : RdFull (.mk 5 n s [e0, e1] ls tl) := by
  intro b g go c ts nx dp w hp hY hlen hk hf hd
  obtain ⟨hN, hpt⟩ := tyErr_zero h
  have hC := ty_cls h
  have hn0 := ty_n0 h (by decide)
  have hs0 := hC.h0 (by decide) (by decide)
  subst hn0; subst hs0
  have hht : hT (.mk 5 0 [] [e0, e1] ls tl) = 1 + max (hT e0) (max (hT e1) 0) := by rw [hT_eq]; rfl
  rw [hht] at hd
  rw [fun_tyK] at hk hf ⊢
  have k0 := hk.left
  have hr := hk.right
  obtain ⟨ta, hta, ka, sa, _⟩ := hr.head
  have hm := hr.tail.left
  have k1 := hr.tail.right
  rw [atK_in (a := 0) (e := e1) (by unfold lvT; split <;> (try split) <;> omega)] at k1 hf ⊢
  have hnext : ∃ t, ts[nx + (atK 1 e0).length + 1 + (midK ls tl).length]? = some t ∧ t.s ≠ [60] := by
    obtain ⟨k, r, e, _, h2⟩ := beg_ty e1 (hpt e1 (by simp))
    rw [e] at k1
    obtain ⟨t, ht, _, ks, _⟩ := k1.head
    exact ⟨t, ht, by rw [ks]; exact h2⟩
  have hlen2 : nx + (atK 1 e0 ++ ((4, [45, 62], 0) :: (midK ls tl ++ tyK e1)) : List Ky).length = nx + (atK 1 e0).length + 1 + (midK ls tl).length + (tyK e1).length := by simp; omega
  rw [hlen2] at hf ⊢
  refine fullType_any b g go c ts nx dp _ _ w hp (by omega) (Lib.hid fun x w1 hg1 hp1 hx1 => ?_)
  have hY1 := hY.grown hg1
  exact ft1_arrow x b g go c ts nx _ _ _ (dp + 1) ta e0 e1 ls tl w1 hp1 hx1 hta sa hlen (fun y hy => by have := hN.hls y hy; exact ⟨by unfold okS maxLen; omega, by unfold okN; omega⟩) (by have := hN.htl; unfold okN; omega)
    (Lib.hid fun w2 hg2 hp2 => h0 b g go c ts nx (dp + 1) w2 hp2 (hY1.grown hg2) hlen k0 ⟨ta, hta, by rw [ka]; decide, by rw [ka]; decide, by rw [sa]; decide⟩ (by split <;> omega))
    (Lib.hid fun w2 hg2 hp2 => row_read b g go c ts _ (dp + 1) ls tl w2 hp2 (hY1.grown hg2) hlen hls hm (fun y hy => ⟨hC.hls y hy, (hN.hls y hy).2⟩) hN.htl hnext)
    (Lib.hid fun w2 hg2 hp2 => h1 b g go c ts _ (dp + 1) w2 hp2 (hY1.grown hg2) hlen k1 hf (by omega))
theorem full_none {e : Ty} (h5 : e.k ≠ 5) (h0 : RdAp e) : RdFull e := by
  intro b g go c ts nx dp w hp hY hlen hk hf hd
  have hh : 1 ≤ hT e := by rw [hT_eq]; omega
  have e1 : atK 1 e = tyK e := atK_in (by unfold lvT; rw [if_neg h5]; split <;> omega)
  refine fullType_any b g go c ts nx dp _ _ w hp (by omega) (Lib.hid fun x w1 hg1 hp1 hx1 => ?_)
  have hY1 := hY.grown hg1
  have hf2 := hf
  obtain ⟨t, ht, _, _, _, hs⟩ := hf2
  exact ft1_none x b g go c ts nx _ (dp + 1) t e w1 hp1 hx1 ht hs (Lib.hid fun w2 hg2 hp2 => by
    have := h0 b g go c ts nx (dp + 1) w2 hp2 (hY1.grown hg2) hlen (by rw [e1]; exact hk) (by rw [e1]; exact hf.f1) (by rw [if_neg h5]; omega)
    rwa [e1] at this)
end Go.Proofs.YtbfojibhdadglaaGreatDoor
/- Every printed type is read: leaves, data types, all. -/
namespace Go.Proofs.YtbfojibhdadglaaGreatDoor
open Go.RowKit

theorem data_tyK {n : Int} {s : Txt} {l : List Ty} {ls : List (Txt × Int)} {tl : Int} : tyK (.mk 6 n s l ls tl) = (2, s, 0) :: l.flatMap (atK 2) := by
  rw [tyK_mk]
  unfold nodeK
  rw [if_neg (by decide), if_neg (by decide), if_neg (by decide), if_neg (by decide), if_neg (by decide), if_neg (by decide), List.flatMap_map]
  rfl
/-- where the arguments stand behind kk of them -/
def argHd (l : List Ty) (nx kk : Nat) : Nat := nx + ((l.take kk).flatMap (atK 2)).length
theorem argHd_succ {l : List Ty} {nx kk : Nat} {x : Ty} (h : l[kk]? = some x) : argHd l nx (kk + 1) = argHd l nx kk + (atK 2 x).length := by
  unfold argHd
  have h1 : l.take (kk + 1) = l.take kk ++ [x] := by rw [List.take_add_one, h]; rfl
  rw [h1, List.flatMap_append, List.length_append]
  simp
  omega
theorem arg_at {ts : List Rt} {nx : Nat} {l : List Ty} (h : KAt ts nx (l.flatMap (atK 2))) {kk : Nat} {x : Ty} (hx : l[kk]? = some x) : KAt ts (argHd l nx kk) (atK 2 x) := by
  have hl : l = l.take kk ++ (x :: l.drop (kk + 1)) := by
    have h1 : l.take (kk + 1) = l.take kk ++ [x] := by rw [List.take_add_one, hx]; rfl
    have := List.take_append_drop (kk + 1) l
    rw [h1] at this
    simpa using this.symm
  rw [hl, List.flatMap_append, List.flatMap_cons] at h
  have := h.right.left
  unfold argHd
  exact this
theorem ap_data {n : Int} {s : Txt} {l : List Ty} {ls : List (Txt × Int)} {tl : Int} (h : tyErr (.mk 6 n s l ls tl) = 0) (hl : ∀ x ∈ l, RdSi x) : RdAp (.mk 6 n s l ls tl) := by
  intro b g go c ts nx dp w hp hY hlen hk hf hd
  obtain ⟨hN, hpt⟩ := tyErr_zero h
  have hC := ty_cls h
  have hn0 := ty_n0 h (by decide)
  obtain ⟨hls0, htl0⟩ := hN.h5 (by decide)
  subst hn0; subst hls0; subst htl0
  obtain ⟨hs1, hs2⟩ := hC.h6 rfl
  rw [atK_in (show (1 : Int) ≤ lvT 6 l.length by unfold lvT; rw [if_neg (by decide)]; split <;> omega), data_tyK] at hk hf ⊢
  rw [if_neg (show (Ty.mk 6 0 s l [] 0).k ≠ 5 from (by decide : (6 : Int) ≠ 5))] at hd
  have hht : hT (.mk 6 0 s l [] 0) = 1 + hTL l := by rw [hT_eq]; rfl
  rw [hht] at hd
  obtain ⟨t, ht, k1, k2, _⟩ := hk.head
  have ka := hk.tail
  have hfull : argHd l (nx + 1) l.length = nx + ((2, s, 0) :: l.flatMap (atK 2) : List Ky).length := by unfold argHd; rw [List.take_length]; simp; omega
  rw [← hfull] at hf ⊢
  refine applied_data b g go c ts nx (nx + 1) _ dp t s l w hp ht k1 (Lib.hid fun w1 hg1 hp1 => ?_) (Lib.hid fun w1 hg1 hp1 => ?_)
  · have := si_data b g go c ts nx dp t w1 hp1 (hY.grown hg1) hlen ht k1 (by rw [k2]; exact hs2) (by rw [k2]; show okS s; have := (isNm_all hs1).2.2.1; unfold okS maxLen; omega)
    rwa [k2] at this
  · refine singles_any b g go c ts (nx + 1) dp l (argHd l (nx + 1)) w1 hp1 (by unfold argHd; simp) (by have := hN.hl.2; omega) (fun kk x hx w2 hg2 hp2 => ?_) (fun kk hkk => ?_) hf
    · have hxm := List.mem_of_getElem? hx
      rw [argHd_succ hx]
      exact hl x hxm b g go c ts _ dp w2 hp2 ((hY.grown hg1).grown hg2) hlen (arg_at ka hx) (by have := hTL_mem hxm; omega)
    · have hx := List.getElem?_eq_getElem hkk
      have hka := arg_at ka hx
      obtain ⟨k, r, e, h1, _⟩ := beg_at (beg_ty _ (hpt _ (List.getElem_mem hkk))) 2
      rw [e] at hka
      obtain ⟨t', ht', q1, q2, _⟩ := hka.head
      exact ⟨t', ht', by rw [q1, q2]; exact h1⟩
/-- a leaf that is no data type -/
theorem si_leaf {k n : Int} {s : Txt} {l : List Ty} {ls : List (Txt × Int)} {tl : Int} (h : tyErr (.mk k n s l ls tl) = 0) (hc : conf (.mk k n s l ls tl) = false) (h5 : k ≠ 5) (h6 : k ≠ 6) : RdSi (.mk k n s l ls tl) ∧ RdAp (.mk k n s l ls tl) := by
  obtain ⟨hN, hpt⟩ := tyErr_zero h
  have hC := ty_cls h
  obtain ⟨hls0, htl0⟩ := hN.h5 h5
  have hl0 := hC.hl h5 h6
  subst hls0; subst htl0; subst hl0
  have hk6 := hN.hk
  have hlv : lvT k 0 = 2 := by unfold lvT; rw [if_neg h5, if_neg (by omega)]
  have hat : ∀ a : Int, a ≤ 2 → atK a (.mk k n s [] [] 0) = tyK (.mk k n s [] [] 0) := fun a ha => atK_in (show a ≤ lvT k ([] : List Ty).length by rw [List.length_nil, hlv]; exact ha)
  have key : ∃ kd sx, tyK (.mk k n s [] [] 0) = [(kd, sx, 0)] ∧ (kd = 0 ∨ kd = 2) ∧ ∀ (b g go c : Nat) (ts : List Rt) (nx dp : Nat) (t : Rt) (w : World), PS w b g go c ts nx dp → SyB w b → ts.length ≤ 100000 → ts[nx]? = some t → t.k = kd → t.s = sx →
      Calls Tryz.prog 114 #[.pointer (some ⟨b, 0, none⟩)] w (TyTo w b g go c ts (nx + 1) dp (.mk k n s [] [] 0)) := by
    rw [tyK_mk]
    unfold nodeK
    by_cases h0 : k = 0
    · subst h0
      have hs0 := hC.h0 (by decide) (by decide)
      subst hs0
      rw [if_pos rfl]
      exact ⟨_, _, rfl, .inl rfl, fun b g go c ts nx dp t w hp hY hlen ht k1 k2 => si_num b g go c ts nx dp t n w hp hY hlen ht k1 k2 hN.hn⟩
    rw [if_neg h0]
    have hn0 := ty_n0 h h0
    subst hn0
    by_cases h1 : k = 1
    · subst h1
      have hv := (isV_nm (hC.h1 rfl)).1
      rw [if_neg (by decide), if_neg (by decide), if_neg (by decide), if_neg (by decide), if_pos rfl]
      refine ⟨0, s, rfl, .inl rfl, fun b g go c ts nx dp t w hp hY hlen ht k1 k2 => ?_⟩
      have hcf : numP s = false := by
        rw [conf, Bool.or_eq_false_iff] at hc
        simpa using hc.1
      have := si_par b g go c ts nx dp t w hp hY hlen ht k1 (by rw [k2]; exact hv) (by rw [k2]; exact hcf)
      rwa [k2] at this
    have hs0 := hC.h0 h1 h6
    subst hs0
    by_cases h2 : k = 2
    · subst h2
      rw [if_pos rfl]
      refine ⟨_, _, rfl, .inr rfl, fun b g go c ts nx dp t w hp hY hlen ht k1 k2 => ?_⟩
      have := si_bi b g go c ts nx dp t w hp hY hlen ht k1 (by rw [k2]; decide) (by rw [k2]; decide)
      rwa [k2] at this
    rw [if_neg h2]
    by_cases h3 : k = 3
    · subst h3
      rw [if_pos rfl]
      refine ⟨_, _, rfl, .inr rfl, fun b g go c ts nx dp t w hp hY hlen ht k1 k2 => ?_⟩
      have := si_bi b g go c ts nx dp t w hp hY hlen ht k1 (by rw [k2]; decide) (by rw [k2]; decide)
      rwa [k2] at this
    rw [if_neg h3]
    have h4 : k = 4 := by omega
    subst h4
    rw [if_pos rfl]
    refine ⟨_, _, rfl, .inr rfl, fun b g go c ts nx dp t w hp hY hlen ht k1 k2 => ?_⟩
    have := si_bi b g go c ts nx dp t w hp hY hlen ht k1 (by rw [k2]; decide) (by rw [k2]; decide)
    rwa [k2] at this
  obtain ⟨kd, sx, hty, hkd, hsi⟩ := key
  refine ⟨fun b g go c ts nx dp w hp hY hlen hk hd => ?_, fun b g go c ts nx dp w hp hY hlen hk hf hd => ?_⟩
  · rw [hat 2 (by omega), hty] at hk ⊢
    obtain ⟨t, ht, k1, k2, _⟩ := hk.head
    exact hsi b g go c ts nx dp t w hp hY hlen ht k1 k2
  · rw [hat 1 (by omega), hty] at hk ⊢
    obtain ⟨t, ht, k1, k2, _⟩ := hk.head
    rcases hkd with rfl | rfl
    · exact applied_low b g go c ts nx _ dp t _ w hp ht (by rw [k1]; show (0 : Int) ≠ 2; decide) (Lib.hid fun w1 hg1 hp1 => hsi b g go c ts nx dp t w1 hp1 (hY.grown hg1) hlen ht k1 k2)
    · exact applied_bi b g go c ts nx _ dp t _ w hp ht k1 h6 (Lib.hid fun w1 hg1 hp1 => hsi b g go c ts nx dp t w1 hp1 (hY.grown hg1) hlen ht k1 k2)
/-- a data type without arguments, alone -/
theorem si_data0 {n : Int} {s : Txt} {ls : List (Txt × Int)} {tl : Int} (h : tyErr (.mk 6 n s [] ls tl) = 0) : RdSi (.mk 6 n s [] ls tl) := by
  intro b g go c ts nx dp w hp hY hlen hk hd
  obtain ⟨hN, hpt⟩ := tyErr_zero h
  have hC := ty_cls h
  have hn0 := ty_n0 h (by decide)
  obtain ⟨hls0, htl0⟩ := hN.h5 (by decide)
  subst hn0; subst hls0; subst htl0
  obtain ⟨hs1, hs2⟩ := hC.h6 rfl
  rw [atK_in (show (2 : Int) ≤ lvT 6 ([] : List Ty).length by decide), data_tyK] at hk ⊢
  obtain ⟨t, ht, k1, k2, _⟩ := hk.head
  have := si_data b g go c ts nx dp t w hp hY hlen ht k1 (by rw [k2]; exact hs2) (by rw [k2]; show okS s; have := (isNm_all hs1).2.2.1; unfold okS maxLen; omega)
  rwa [k2] at this
theorem read_all : ∀ e, tyErr e = 0 → conf e = false → (∀ m : Ty → Prop, m e → (∀ x, m x → x.ls.length ≤ 100000 ∧ ∀ y ∈ x.l, m y) → RdFull e ∧ RdAp e ∧ RdSi e) := by
  refine Ty.ind fun e ih h hc M hM hMs => ?_
  cases e with
  | mk k n s l ls tl =>
  obtain ⟨hN, hpt⟩ := tyErr_zero h
  have hcl : ∀ x ∈ l, conf x = false := fun x hx => by
    rw [conf, Bool.or_eq_false_iff] at hc
    exact confL_mem hc.2 x hx
  have hih : ∀ x ∈ l, RdFull x ∧ RdAp x ∧ RdSi x := fun x hx => ih x hx (hpt x hx) (hcl x hx) M ((hMs _ hM).2 x hx) hMs
  by_cases h5 : k = 5
  · subst h5
    match l, hN.hl.1 rfl, hih with
    | [e0, e1], _, hih =>
      have hF := full_fun h (hMs _ hM).1 (hih e0 (by simp)).2.1 (hih e1 (by simp)).1
      have hS := si_paren hF (show ¬ (2 : Int) ≤ lvT 5 2 by decide)
      exact ⟨hF, ap_paren hS (show ¬ (1 : Int) ≤ lvT 5 2 by decide) rfl, hS⟩
  by_cases h6 : k = 6
  · subst h6
    have hA := ap_data h (fun x hx => (hih x hx).2.2)
    have hF := full_none (e := .mk 6 n s l ls tl) (show (6 : Int) ≠ 5 by decide) hA
    refine ⟨hF, hA, ?_⟩
    cases l with
    | nil => exact si_data0 h
    | cons x r => exact si_paren hF (show ¬ (2 : Int) ≤ lvT 6 (x :: r).length by unfold lvT; simp)
  · obtain ⟨hS, hA⟩ := si_leaf h hc h5 h6
    exact ⟨full_none h5 hA, hA, hS⟩
end Go.Proofs.YtbfojibhdadglaaGreatDoor
/- ParseType reads a printed type. -/
namespace Go.Proofs.YtbfojibhdadglaaGreatDoor
open Go.RowKit

theorem tleftL_mem : ∀ (l : List Ty) (nodes d : Int), 0 ≤ tleftL l nodes d → ∀ x ∈ l, ∃ m, 0 ≤ tleftP x m d
  | [], _, _, _, x, hx => by simp at hx
  | e :: r, nodes, d, h, x, hx => by
    rw [tleftL] at h
    split at h
    · omega
    · have h1 : 0 ≤ tleftP e nodes d := by
        refine Classical.byContradiction fun hn => ?_
        rw [tleftL_neg _ _ _ (by omega)] at h
        omega
      rcases List.mem_cons.1 hx with rfl | hx
      · exact ⟨nodes, h1⟩
      · exact tleftL_mem r _ d h x hx
theorem tleft_ok : ∀ x : Ty, (∃ m d, 0 ≤ tleftP x m d) → x.ls.length ≤ 100000 ∧ ∀ y ∈ x.l, ∃ m d, 0 ≤ tleftP y m d := by
  rintro ⟨k, n, s, l, ls, tl⟩ ⟨m, d, h⟩
  rw [tleftP] at h
  split at h
  · omega
  · rename_i hc
    have c4 : ¬ 50 < ls.length := fun h => hc (.inr (.inr (.inr (.inl h))))
    refine ⟨show ls.length ≤ 100000 by omega, fun y hy => ?_⟩
    obtain ⟨m', h'⟩ := tleftL_mem l _ _ h y hy
    exact ⟨m', d - 1, h'⟩
theorem kat_of {xs : List Tk} {ks : List Ky} {pos : Nat} (h : xs.map kyOf = ks) : KAt ((xs ++ [(⟨5, [], 0, pos⟩ : Tk)]).map rtOf) 0 ks := by
  subst h
  intro j k hj
  rw [List.getElem?_map, Option.map_eq_some_iff] at hj
  obtain ⟨x, hx, rfl⟩ := hj
  refine ⟨rtOf x, ?_, rfl, rfl, rfl⟩
  rw [Nat.zero_add, List.getElem?_map, List.getElem?_append_left (List.getElem?_eq_some_iff.1 hx).1, hx]
  rfl
theorem parseType_any (e : Ty) (w : World) (hY : Syms w) (hU : UsesT w) (hE : tyErr e = 0) (hc : conf e = false) (hp : pkT e = 0) (hd : hT e ≤ 400) (hl : (textT e).length ≤ 30000) (hm : ∃ m d, 0 ≤ tleftP e m d) :
    Calls Tryz.prog 9 #[.string (strB (textT e))] w (ParseToT w e) := by
  obtain ⟨xs, hx, hks⟩ := lexS_ty hE hl
  have hxl : xs.length = (tyK e).length := by rw [← hks, List.length_map]
  have hx0 : 0 < xs.length := by
    obtain ⟨k, r, ek, _⟩ := beg_ty e hE
    rw [hxl, ek]; simp
  have hx1 : xs.length ≤ 30001 := by
    unfold lexS at hx
    rw [if_neg (by omega)] at hx
    split at hx
    · have := (Prod.mk.inj hx).1
      rw [← this]; simp
    · have := lexF_len ((textT e).length + 1) 0 (textT e)
      rw [(Prod.mk.inj hx).1] at this
      omega
  have hsz : (strB (textT e)).size = (textT e).length := by simp [strB, ByteArray.size]
  refine parseType_ok _ e w (Lib.hid fun w1 hb1 => parseT_ok _ xs _ e w1 (hY.grown (grown_below hb1 none) (by simp)) (by omega) (by rw [data_strB]; exact hx) ⟨hx0, hx1⟩ rfl ?_ ?_)
  · refine Lib.hid fun b g go c w2 hy2 h2 => ?_
    have hka := kat_of (pos := (strB (textT e)).size) hks
    have hlen : ((xs ++ [(⟨5, [], 0, (strB (textT e)).size⟩ : Tk)]).map rtOf).length ≤ 100000 := by simp; omega
    have hend : ((xs ++ [(⟨5, [], 0, (strB (textT e)).size⟩ : Tk)]).map rtOf)[0 + (tyK e).length]? = some (rtOf ⟨5, [], 0, (strB (textT e)).size⟩) := by
      rw [Nat.zero_add, ← hxl, List.getElem?_map, List.getElem?_append_right (Nat.le_refl _), Nat.sub_self]; rfl
    exact readAllT_ok b g go c _ _ e _ w2 h2 hend rfl hlen (Lib.hid fun w3 hg3 h3 =>
      (read_all e hE hc (fun x => ∃ m d, 0 ≤ tleftP x m d) hm tleft_ok).1 b g go c _ 0 0 w3 h3 (hy2.grown hg3) hlen hka ⟨_, hend, by simp [rtOf], by simp [rtOf], by simp [rtOf], by simp [rtOf]⟩ (by omega))
  · refine Lib.hid fun k n s A0 n0 c0 A1 n1 c1 tl w4 hb4 h4 => ?_
    have := checkType_any _ e k n s tl A0 n0 c0 A1 n1 c1 w4 h4 (by omega) ((hU.below hb1).below hb4)
    rwa [hp] at this
end Go.Proofs.YtbfojibhdadglaaGreatDoor
/- The statement's own functions: numbered. -/
namespace Go.Proofs.YtbfojibhdadglaaGreatDoor
open Go.RowKit

theorem kind3 {c : Int} : kindI c = 3 ↔ 48 ≤ c ∧ c ≤ 57 := by
  unfold kindI
  repeat' split
  all_goals omega
theorem numP_iff {s : List UInt8} : numP s = true ↔ 2 ≤ s.length ∧ s[0]? = some 116 ∧ ∀ (j : Nat) (c : UInt8), 1 ≤ j → s[j]? = some c → kb c = 3 := by
  cases s with
  | nil => simp [numP]
  | cons x r =>
    unfold numP
    simp only [List.length_cons, List.head?_cons, List.tail_cons, Bool.and_eq_true, decide_eq_true_eq, List.all_eq_true, beq_iff_eq, List.getElem?_cons_zero]
    constructor
    · rintro ⟨⟨h1, h2⟩, h3⟩
      refine ⟨h1, by simpa using h2, fun j c hj hc => ?_⟩
      cases j with
      | zero => omega
      | succ j => exact h3 c (List.mem_of_getElem? (by simpa using hc))
    · rintro ⟨h1, h2, h3⟩
      refine ⟨⟨h1, by simpa using h2⟩, fun c hc => ?_⟩
      obtain ⟨j, hj, rfl⟩ := List.getElem_of_mem hc
      exact h3 (j + 1) _ (by omega) (by simp)
theorem at_data (S : ByteArray) (k : Nat) (h : k < S.size) : S.data.toList[k]? = some (S[k]'h) := by
  rw [Array.getElem?_toList]
  exact Array.getElem?_eq_getElem h

set_option maxRecDepth 100000 in
set_option maxHeartbeats 4000000 in
theorem numbered_any (S : ByteArray) (w : World) (hs : S.size ≤ maxLen) :
    Calls Tryz.prog 12 #[.string S] w fun e w' => e = .returned (.bool (numP S.data.toList)) ∧ w = w' := by
  unfold maxLen at hs
  have hlen : S.data.toList.length = S.size := Array.length_toList
  by_cases h2 : S.size < 2
  · have HR := Lib.hid (show numP S.data.toList = false by
      rw [Bool.eq_false_iff, ne_eq, numP_iff]
      rintro ⟨h, _⟩; omega)
    have g2 : decide ((S.size : Int) < 2) = true := decide_eq_true (by omega)
    clear hlen
    go_enter Tryz.func12, Tryz.ntmps12
    go_wp2_with fail
    go_ret
    exact ⟨by rw [HR.out]; rfl, rfl⟩
  have g2 : decide ((S.size : Int) < 2) = false := decide_eq_false (by omega)
  have hp : 0 < S.size := by omega
  by_cases h0 : ((S[0]'hp).toNat : Int) = 116
  · have g0 : (((S[0]'hp).toNat : Int) == 116) = true := by simpa using h0
    have g0' : (((S[0]'hp).toNat : Int) != 116) = false := by simpa using h0
    have HLen := Lib.hid hlen
    have H0 := Lib.hid h0
    clear hlen
    go_enter Tryz.func12, Tryz.ntmps12
    go_wp2_with fail
    go_loop [3] (fun i => ∃ k : Nat, 1 ≤ k ∧ k ≤ S.size ∧ i = .int .i64 (k : Int) ∧ Hid (∀ (j : Nat) (h : j < S.size), 1 ≤ j → j < k → kb S[j] = 3)) (fun i => S.size - (intOf i).toNat)
    case atStart => exact ⟨1, by omega, by omega, rfl, fun j h h1 h2 => by omega⟩
    case round =>
      obtain ⟨k, hk1, hk, rfl, HA⟩ := hrel
      by_cases hkl : k < S.size
      · by_cases h3 : kindI ((S[k]'hkl).toNat : Int) = 3
        · have h3' := kind3.1 h3
          have a1 : decide (((S[k]'hkl).toNat : Int) < 48) = false := decide_eq_false (by omega)
          have a2 : decide (57 < ((S[k]'hkl).toNat : Int)) = false := decide_eq_false (by omega)
          have HA2 : Hid (∀ (j : Nat) (h : j < S.size), 1 ≤ j → j < k + 1 → kb S[j] = 3) := fun j h h1 hj => by
            by_cases e : j = k
            · subst e; exact h3
            · exact HA.out j h h1 (by omega)
          clear h3 HA
          go_wp2_with fail
          go_round
          case rel => exact ⟨k + 1, by omega, by omega, by go_num, HA2⟩
          case measure => simp [intOf]; omega
        · have HR := Lib.hid (show numP S.data.toList = false by
            rw [Bool.eq_false_iff, ne_eq, numP_iff]
            rintro ⟨_, _, h⟩
            exact h3 (h k _ hk1 (at_data S k hkl)))
          have h3' : ¬ (48 ≤ ((S[k]'hkl).toNat : Int) ∧ ((S[k]'hkl).toNat : Int) ≤ 57) := fun h => h3 (kind3.2 h)
          clear h3 HA
          by_cases c1 : ((S[k]'hkl).toNat : Int) < 48
          · have a1 : decide (((S[k]'hkl).toNat : Int) < 48) = true := decide_eq_true c1
            clear h3'
            go_wp2_with fail
            go_ret
            exact ⟨by rw [HR.out]; rfl, rfl⟩
          · have a1 : decide (((S[k]'hkl).toNat : Int) < 48) = false := decide_eq_false c1
            have a2 : decide (57 < ((S[k]'hkl).toNat : Int)) = true := decide_eq_true (by omega)
            clear h3'
            go_wp2_with fail
            go_ret
            exact ⟨by rw [HR.out]; rfl, rfl⟩
      · obtain rfl : k = S.size := by omega
        have HR := Lib.hid (show numP S.data.toList = true by
          rw [numP_iff]
          refine ⟨by rw [HLen.out]; omega, ?_, fun j c hj hc => ?_⟩
          · rw [at_data S 0 hp]
            congr 1
            apply UInt8.toNat_inj.1
            have := H0.out
            show (S[0]'hp).toNat = 116
            omega
          · have hjl := (List.getElem?_eq_some_iff.1 hc).1
            rw [HLen.out] at hjl
            rw [at_data S j hjl] at hc
            have := Option.some.inj hc
            rw [← this]
            exact HA.out j hjl hj hjl)
        clear HA
        go_wp2_with fail
        go_ret
        exact ⟨by rw [HR.out]; rfl, rfl⟩
  · have HR := Lib.hid (show numP S.data.toList = false by
      rw [Bool.eq_false_iff, ne_eq, numP_iff]
      rintro ⟨_, h, _⟩
      rw [at_data S 0 hp] at h
      exact h0 (by rw [Option.some.inj h]; rfl))
    have g0 : (((S[0]'hp).toNat : Int) == 116) = false := by simpa using h0
    have g0' : (((S[0]'hp).toNat : Int) != 116) = true := by simpa using h0
    clear hlen
    go_enter Tryz.func12, Tryz.ntmps12
    go_wp2_with fail
    go_ret
    exact ⟨by rw [HR.out]; rfl, rfl⟩
end Go.Proofs.YtbfojibhdadglaaGreatDoor
/- The statement's own functions: confused. -/
namespace Go.Proofs.YtbfojibhdadglaaGreatDoor
open Go.RowKit

theorem confL_any {l : List Ty} : confL l = true ↔ ∃ (j : Nat) (x : Ty), l[j]? = some x ∧ conf x = true := by
  induction l with
  | nil => simp [confL]
  | cons e r ih =>
    rw [confL, Bool.or_eq_true, ih]
    constructor
    · rintro (h | ⟨j, x, h1, h2⟩)
      · exact ⟨0, e, rfl, h⟩
      · exact ⟨j + 1, x, by simpa using h1, h2⟩
    · rintro ⟨j, x, h1, h2⟩
      cases j with
      | zero => simp only [List.getElem?_cons_zero, Option.some.injEq] at h1; subst h1; exact .inl h2
      | succ j => exact .inr ⟨j, x, by simpa using h1, h2⟩
/-- what confused answers for a type -/
def CfSays (e : Ty) : Prop := ∀ (cs : List Value) (w : World), RepT (fun _ => True) w e cs →
  Calls Tryz.prog 5 #[.agg cs.toArray] w fun e' w' => e' = .returned (.bool (conf e)) ∧ Below w.heap.size w w'
set_option maxRecDepth 100000 in
set_option maxHeartbeats 4000000 in
theorem confused_any : ∀ e, CfSays e := by
  refine Ty.ind fun e ih cs w h1 => ?_
  cases e with
  | mk k n s l ls tl =>
  have h1' := h1.tight
  obtain ⟨Al, cl, Ar, cr, rfl, hf, hls, hl⟩ := h1'
  have hPl : TParts w.heap.size w Al l := tparts_of hl
  obtain ⟨S, hS⟩ : ∃ S, S = strB s := ⟨_, rfl⟩
  have hSz : S.size ≤ maxLen := by rw [hS, strB_size]; exact hf.hs
  have HNu : Hid (∀ w, Calls Tryz.prog 12 #[.string S] w fun e w' => e = .returned (.bool (numP s)) ∧ w = w') := Lib.hid (fun w => by
    have := numbered_any S w hSz
    rw [hS, data_strB] at this
    rw [hS]; exact this)
  obtain ⟨nl, hnl⟩ : ∃ q, q = l.length := ⟨_, rfl⟩
  have hl2 : (nl : Int) ≤ 9223372036854775807 := by have := hf.hcl; unfold maxLen at this; omega
  obtain ⟨nr, hnr⟩ : ∃ q, q = ls.length := ⟨_, rfl⟩
  obtain ⟨R, hR⟩ : ∃ R, R = conf (.mk k n s l ls tl) := ⟨_, rfl⟩
  show Calls Tryz.prog 5 #[.agg #[.int .i64 k, .int .i64 n, .string (strB s), .slice Al l.length cl, .slice Ar ls.length cr, .int .i64 tl]] w fun e' w' => e' = .returned (.bool (conf (.mk k n s l ls tl))) ∧ Below w.heap.size w w'
  rw [← hR, ← hS, ← hnl, ← hnr]
  rw [conf] at hR
  have HNl := Lib.hid hnl
  have HPl := Lib.hid hPl
  have HIH := Lib.hid ih
  have HRe := Lib.hid hR
  obtain ⟨W1, hW1⟩ : ∃ W1, w.alloc (.cells #[.int .i64 k, .int .i64 n, .string S, .slice Al nl cl, .slice Ar nr cr, .int .i64 tl] 28) = W1 := ⟨_, rfl⟩
  have HB1 : Hid (Below w.heap.size w W1) := Lib.hid (by rw [← hW1]; exact (Below.refl _ _).alloc (Nat.le_refl _) _)
  have HE1 : Hid (TyBx W1 w.heap.size (.int .i64 k) (.int .i64 n) (.string S) (.slice Al nl cl) (.slice Ar nr cr) (.int .i64 tl)) := Lib.hid (by rw [← hW1]; exact TyBx.new w _ _ _ _ _ _)
  have hzw : w.heap.size < W1.heap.size := by rw [← hW1]; simp
  obtain ⟨a0, a1, a2, a3, a4, a5⟩ := HE1.out.c
  obtain ⟨B, hB⟩ : ∃ B, B = numP s := ⟨_, rfl⟩
  have HBn := Lib.hid hB
  rw [← hB] at HNu
  clear h1 hf hls hl hPl ih hS hSz hR hnl hnr hB
  by_cases hk : k = 1
  · subst hk
    cases B with
    | true =>
      have HRt := Lib.hid (show R = true by rw [HRe.out, ← HBn.out]; rfl)
      go_enter Tryz.func5, Tryz.ntmps5
      go_wp2_with fail
      clear hW1
      refine (HNu.out _).mono ?_
      rintro r w2 ⟨rfl, rfl⟩
      go_wp2_with fail
      go_ret
      exact ⟨by rw [HRt.out]; rfl, HB1.out⟩
    | false =>
      have HRt := Lib.hid (show R = confL l by rw [HRe.out, ← HBn.out]; rfl)
      go_enter Tryz.func5, Tryz.ntmps5
      go_wp2_with fail
      clear hW1
      refine (HNu.out _).mono ?_
      rintro r w2 ⟨rfl, rfl⟩
      go_wp2_with fail
      go_loopw [3] (fun i wr => ∃ (j : Nat), j ≤ nl ∧ i = .int .i64 (j : Int) ∧ Hid (∀ (jj : Nat) (x : Ty), jj < j → l[jj]? = some x → conf x = false) ∧ Hid (Below W1.heap.size W1 wr)) (fun i _ => nl - (intOf i).toNat)
      case atStart => exact ⟨0, by omega, rfl, Lib.hid (fun jj x h _ => absurd h (Nat.not_lt_zero _)), Lib.hid (Below.refl _ _)⟩
      case round =>
        clear a0 a1 a2 a3 a4 a5
        obtain ⟨j, hj, rfl, HA, HBw⟩ := hrel
        have HB := Lib.hid (HB1.out.trans (HBw.out.mono HB1.out.size))
        have HEr : Hid (TyBx wr w.heap.size (.int .i64 1) (.int .i64 n) (.string S) (.slice Al nl cl) (.slice Ar nr cr) (.int .i64 tl)) := Lib.hid (HE1.out.kept (grown_below HBw.out none) (by simp))
        obtain ⟨a0, a1, a2, a3, a4, a5⟩ := HEr.out.c
        have i0 : (0 : Int) ≤ (j : Int) := by omega
        by_cases hjl : j < nl
        · have i1 : (j : Int) < (nl : Int) := by omega
          have hjl' : j < l.length := by rw [← HNl.out]; exact hjl
          obtain ⟨x, hx⟩ : ∃ x, x = l[j] := ⟨_, rfl⟩
          have hxl : l[j]? = some x := by rw [hx]; exact List.getElem?_eq_getElem hjl'
          have HXl := Lib.hid hxl
          obtain ⟨b, off, rfl⟩ := HPl.out.addr (by omega)
          obtain ⟨hbx, k1, m1, s1, X0, p0, c0, X1, p1, c1, t1, hcx⟩ := HPl.out.at hxl
          obtain ⟨f0, f1, f2, f3, f4, f5⟩ := hcx.up hbx HB.out
          obtain ⟨N', hN'⟩ : ∃ N', N' = conf x := ⟨_, rfl⟩
          have HN := Lib.hid hN'
          have HI : Hid (Calls Tryz.prog 5 #[.agg #[.int .i64 k1, .int .i64 m1, .string s1, .slice X0 p0 c0, .slice X1 p1 c1, .int .i64 t1]] wr fun e' w' => e' = .returned (.bool N') ∧ Below wr.heap.size wr w') := Lib.hid (by
            rw [hN']
            exact HIH.out x (List.mem_of_getElem? hxl) _ wr ((hcx.rep.weaken (Q := fun _ => True) (fun _ _ => trivial)).keep (Same.of_below HB.out)))
          clear hx hxl hcx hN' hbx
          cases N' with
          | true =>
            have HR3 := Lib.hid (show R = true by rw [HRt.out]; exact confL_any.2 ⟨j, x, HXl.out, HN.out.symm⟩)
            go_wp2_with fail
            refine HI.out.mono ?_
            rintro r w3 ⟨rfl, hb⟩
            have HB3 := Lib.hid (HB.out.trans (hb.mono HB.out.size))
            clear hb
            go_wp2_with fail
            go_ret
            exact ⟨by rw [HR3.out]; rfl, HB3.out⟩
          | false =>
            go_wp2_with fail
            refine HI.out.mono ?_
            rintro r w3 ⟨rfl, hb⟩
            have HB3 := Lib.hid (HBw.out.trans (hb.mono HBw.out.size))
            have HA2 : Hid (∀ (jj : Nat) (x : Ty), jj < j + 1 → l[jj]? = some x → conf x = false) := Lib.hid (fun jj y h hy => by
              by_cases e : jj = j
              · subst e
                have := Option.some.inj (hy.symm.trans HXl.out)
                rw [this]; exact HN.out.symm
              · exact HA.out jj y (by omega) hy)
            clear hb HA
            go_wp2_with fail
            go_roundw
            case rel => exact ⟨j + 1, by omega, by go_num, HA2, HB3⟩
            case measure => simp [intOf]; omega
        · obtain rfl : j = nl := by omega
          have HR3 := Lib.hid (show R = false by
            rw [HRt.out, Bool.eq_false_iff, ne_eq, confL_any]
            rintro ⟨jj, x, h1, h2⟩
            have hjj := (List.getElem?_eq_some_iff.1 h1).1
            rw [HA.out jj x (by rw [HNl.out]; exact hjj) h1] at h2
            cases h2)
          clear HA
          go_wp2_with fail
          go_ret
          exact ⟨by rw [HR3.out]; rfl, HB.out⟩
  · have hkb : (k == 1) = false := by simpa using hk
    have HRt := Lib.hid (show R = confL l by rw [HRe.out, decide_eq_false hk]; rfl)
    clear hk
    go_enter Tryz.func5, Tryz.ntmps5
    go_wp2_with fail
    clear hW1
    go_loopw [3] (fun i wr => ∃ (j : Nat), j ≤ nl ∧ i = .int .i64 (j : Int) ∧ Hid (∀ (jj : Nat) (x : Ty), jj < j → l[jj]? = some x → conf x = false) ∧ Hid (Below W1.heap.size W1 wr)) (fun i _ => nl - (intOf i).toNat)
    case atStart => exact ⟨0, by omega, rfl, Lib.hid (fun jj x h _ => absurd h (Nat.not_lt_zero _)), Lib.hid (Below.refl _ _)⟩
    case round =>
      clear a0 a1 a2 a3 a4 a5
      obtain ⟨j, hj, rfl, HA, HBw⟩ := hrel
      have HB := Lib.hid (HB1.out.trans (HBw.out.mono HB1.out.size))
      have HEr : Hid (TyBx wr w.heap.size (.int .i64 k) (.int .i64 n) (.string S) (.slice Al nl cl) (.slice Ar nr cr) (.int .i64 tl)) := Lib.hid (HE1.out.kept (grown_below HBw.out none) (by simp))
      obtain ⟨a0, a1, a2, a3, a4, a5⟩ := HEr.out.c
      have i0 : (0 : Int) ≤ (j : Int) := by omega
      by_cases hjl : j < nl
      · have i1 : (j : Int) < (nl : Int) := by omega
        have hjl' : j < l.length := by rw [← HNl.out]; exact hjl
        obtain ⟨x, hx⟩ : ∃ x, x = l[j] := ⟨_, rfl⟩
        have hxl : l[j]? = some x := by rw [hx]; exact List.getElem?_eq_getElem hjl'
        have HXl := Lib.hid hxl
        obtain ⟨b, off, rfl⟩ := HPl.out.addr (by omega)
        obtain ⟨hbx, k1, m1, s1, X0, p0, c0, X1, p1, c1, t1, hcx⟩ := HPl.out.at hxl
        obtain ⟨f0, f1, f2, f3, f4, f5⟩ := hcx.up hbx HB.out
        obtain ⟨N', hN'⟩ : ∃ N', N' = conf x := ⟨_, rfl⟩
        have HN := Lib.hid hN'
        have HI : Hid (Calls Tryz.prog 5 #[.agg #[.int .i64 k1, .int .i64 m1, .string s1, .slice X0 p0 c0, .slice X1 p1 c1, .int .i64 t1]] wr fun e' w' => e' = .returned (.bool N') ∧ Below wr.heap.size wr w') := Lib.hid (by
          rw [hN']
          exact HIH.out x (List.mem_of_getElem? hxl) _ wr ((hcx.rep.weaken (Q := fun _ => True) (fun _ _ => trivial)).keep (Same.of_below HB.out)))
        clear hx hxl hcx hN' hbx
        cases N' with
        | true =>
          have HR3 := Lib.hid (show R = true by rw [HRt.out]; exact confL_any.2 ⟨j, x, HXl.out, HN.out.symm⟩)
          go_wp2_with fail
          refine HI.out.mono ?_
          rintro r w3 ⟨rfl, hb⟩
          have HB3 := Lib.hid (HB.out.trans (hb.mono HB.out.size))
          clear hb
          go_wp2_with fail
          go_ret
          exact ⟨by rw [HR3.out]; rfl, HB3.out⟩
        | false =>
          go_wp2_with fail
          refine HI.out.mono ?_
          rintro r w3 ⟨rfl, hb⟩
          have HB3 := Lib.hid (HBw.out.trans (hb.mono HBw.out.size))
          have HA2 : Hid (∀ (jj : Nat) (x : Ty), jj < j + 1 → l[jj]? = some x → conf x = false) := Lib.hid (fun jj y h hy => by
            by_cases e : jj = j
            · subst e
              have := Option.some.inj (hy.symm.trans HXl.out)
              rw [this]; exact HN.out.symm
            · exact HA.out jj y (by omega) hy)
          clear hb HA
          go_wp2_with fail
          go_roundw
          case rel => exact ⟨j + 1, by omega, by go_num, HA2, HB3⟩
          case measure => simp [intOf]; omega
      · obtain rfl : j = nl := by omega
        have HR3 := Lib.hid (show R = false by
          rw [HRt.out, Bool.eq_false_iff, ne_eq, confL_any]
          rintro ⟨jj, x, h1, h2⟩
          have hjj := (List.getElem?_eq_some_iff.1 h1).1
          rw [HA.out jj x (by rw [HNl.out]; exact hjj) h1] at h2
          cases h2)
        clear HA
        go_wp2_with fail
        go_ret
        exact ⟨by rw [HR3.out]; rfl, HB.out⟩
end Go.Proofs.YtbfojibhdadglaaGreatDoor
/- SyntaxTypeBack: a type that is printed is parsed as the same one. -/
namespace Go.Proofs.YtbfojibhdadglaaGreatDoor
open Go.RowKit

mutual
theorem sameT_self : ∀ e : Ty, sameT e e = true
  | .mk k n s l ls tl => by
    rw [sameT, sameTL_self l, Bool.and_true]
    simp [hdT, Ty.k, Ty.n, Ty.s, Ty.ls, Ty.tl]
theorem sameTL_self : ∀ l : List Ty, sameTL l l = true
  | [] => by simp [sameTL]
  | x :: r => by rw [sameTL, sameT_self x, sameTL_self r]; rfl
end
set_option maxRecDepth 100000 in
set_option maxHeartbeats 8000000 in
theorem back_law (e : Ty) (k n : Int) (s : ByteArray) (A0 : Option Addr) (n0 c0 : Nat) (A1 : Option Addr) (n1 c1 : Nat) (tl : Int) (w : World)
    (hre : RepT (fun _ => True) w e [.int .i64 k, .int .i64 n, .string s, .slice A0 n0 c0, .slice A1 n1 c1, .int .i64 tl]) (hEn : EnvS w) (hU : UsesT w) :
    Calls Tryz.prog 3 #[.agg #[.int .i64 k, .int .i64 n, .string s, .slice A0 n0 c0, .slice A1 n1 c1, .int .i64 tl]] w fun r w' => r = .returned (.bool true) ∧ Below w.heap.size w w' := by
  obtain ⟨w1, hW1⟩ : ∃ W1, w.alloc (.cells #[.int .i64 k, .int .i64 n, .string s, .slice A0 n0 c0, .slice A1 n1 c1, .int .i64 tl] 28) = W1 := ⟨_, rfl⟩
  have HB1 : Hid (Below w.heap.size w w1) := Lib.hid (by rw [← hW1]; exact (Below.refl _ _).alloc (Nat.le_refl _) _)
  have HE1 : Hid (TyBx w1 w.heap.size (.int .i64 k) (.int .i64 n) (.string s) (.slice A0 n0 c0) (.slice A1 n1 c1) (.int .i64 tl)) := Lib.hid (by rw [← hW1]; exact TyBx.new w _ _ _ _ _ _)
  have HRe := Lib.hid hre
  have HEn := Lib.hid hEn
  have HU := Lib.hid hU
  have HG := Lib.hid (fun w' (hb : Below w.heap.size w w') => GreatType_any e _ _ _ _ _ _ w' (HRe.out.keep (Same.of_below hb)))
  have HCf := Lib.hid (fun w' (hb : Below w.heap.size w w') => confused_any e _ w' (HRe.out.keep (Same.of_below hb)))
  obtain ⟨G, hG⟩ : ∃ G, G = greatT e := ⟨_, rfl⟩
  rw [← hG] at HG
  obtain ⟨C, hC⟩ : ∃ C, C = conf e := ⟨_, rfl⟩
  rw [← hC] at HCf
  obtain ⟨e0, e1, e2, e3, e4, e5⟩ := HE1.out.c
  clear hre hEn hU
  cases G with
  | true =>
    clear hG hC
    go_enter Tryz.func3, Tryz.ntmps3
    go_wp2_with fail
    clear hW1
    refine (HG.out w1 HB1.out).mono ?_
    rintro r w2 ⟨rfl, hb⟩
    have HB2 := Lib.hid (HB1.out.trans (hb.mono HB1.out.size))
    clear hb e0 e1 e2 e3 e4 e5
    go_wp2_with fail
    refine (shows_any w2 (HEn.out.below HB2.out)).mono ?_
    rintro r w3 ⟨rfl, hb⟩
    have HB3 := Lib.hid (HB2.out.trans (hb.mono HB2.out.size))
    clear hb
    go_wp2_with fail
    go_ret
    exact ⟨rfl, HB3.out⟩
  | false =>
  cases C with
  | true =>
    clear hG hC
    go_enter Tryz.func3, Tryz.ntmps3
    go_wp2_with fail
    clear hW1
    refine (HG.out w1 HB1.out).mono ?_
    rintro r w2 ⟨rfl, hb⟩
    have HB2 := Lib.hid (HB1.out.trans (hb.mono HB1.out.size))
    have HE2 := Lib.hid (HE1.out.kept (grown_below hb none) (by simp))
    clear hb e0 e1 e2 e3 e4 e5
    obtain ⟨e0, e1, e2, e3, e4, e5⟩ := HE2.out.c
    go_wp2_with fail
    refine (HCf.out w2 HB2.out).mono ?_
    rintro r w3 ⟨rfl, hb⟩
    have HB3 := Lib.hid (HB2.out.trans (hb.mono HB2.out.size))
    have HE3 := Lib.hid (HE2.out.kept (grown_below hb none) (by simp))
    clear hb e0 e1 e2 e3 e4 e5
    go_wp2_with fail
    refine (shows_any w3 (HEn.out.below HB3.out)).mono ?_
    rintro r w4 ⟨rfl, hb⟩
    have HB4 := Lib.hid (HB3.out.trans (hb.mono HB3.out.size))
    clear hb
    go_wp2_with fail
    go_ret
    exact ⟨rfl, HB4.out⟩
  | false =>
    have hgr := greatT_hT hG.symm
    have HhE : Hid (hT e ≤ 900000) := Lib.hid (by omega)
    have HM : Hid (∃ m d, 0 ≤ tleftP e m d) := Lib.hid (by
      refine ⟨4000, 250, ?_⟩
      have := hG.symm
      unfold greatT at this
      simpa using this)
    have HCn := Lib.hid hC.symm
    obtain ⟨T, hT⟩ : ∃ V, V = strB (showT e).1 := ⟨_, rfl⟩
    obtain ⟨U, hU⟩ : ∃ V, V = (showT e).2 := ⟨_, rfl⟩
    have HS : Hid (∀ w', Below w.heap.size w w' → Calls Tryz.prog 7 #[.agg #[.int .i64 k, .int .i64 n, .string s, .slice A0 n0 c0, .slice A1 n1 c1, .int .i64 tl]] w' fun r w2 => r = .returned (.tuple #[.string T, .int .i64 U]) ∧ Below w'.heap.size w' w2) := Lib.hid (fun w' hb => by
      have := showType_any _ e k n s tl A0 n0 c0 A1 n1 c1 w' (HRe.out.keep (Same.of_below hb)) HhE.out (HU.out.below hb) (HEn.out.below hb).2.2
      rw [← hT, ← hU] at this; exact this)
    have HTe := Lib.hid hT
    have HUe := Lib.hid hU
    clear hgr hG hC hT hU
    by_cases hU0 : U = 0
    · subst hU0
      have HPk : Hid (pkT e = 0) := Lib.hid (by
        have h1 := HUe.out
        unfold showT at h1
        split at h1
        · assumption
        · rename_i h2; exact absurd h1.symm h2)
      have HTt : Hid (T = strB (textT e)) := Lib.hid (by rw [HTe.out]; unfold showT; rw [if_pos HPk.out])
      have HTz : Hid (T.size = (textT e).length) := Lib.hid (by rw [HTt.out, strB_size])
      by_cases hlong : 30000 < T.size
      · have g1 : decide ((30000 : Int) < (T.size : Int)) = true := decide_eq_true (by omega)
        go_enter Tryz.func3, Tryz.ntmps3
        go_wp2_with fail
        clear hW1
        refine (HG.out w1 HB1.out).mono ?_
        rintro r w2 ⟨rfl, hb⟩
        have HB2 := Lib.hid (HB1.out.trans (hb.mono HB1.out.size))
        have HE2 := Lib.hid (HE1.out.kept (grown_below hb none) (by simp))
        clear hb e0 e1 e2 e3 e4 e5
        obtain ⟨e0, e1, e2, e3, e4, e5⟩ := HE2.out.c
        go_wp2_with fail
        refine (HCf.out w2 HB2.out).mono ?_
        rintro r w3 ⟨rfl, hb⟩
        have HB3 := Lib.hid (HB2.out.trans (hb.mono HB2.out.size))
        have HE3 := Lib.hid (HE2.out.kept (grown_below hb none) (by simp))
        clear hb e0 e1 e2 e3 e4 e5
        obtain ⟨e0, e1, e2, e3, e4, e5⟩ := HE3.out.c
        go_wp2_with fail
        refine (HS.out w3 HB3.out).mono ?_
        rintro r w4 ⟨rfl, hb⟩
        have HB4 := Lib.hid (HB3.out.trans (hb.mono HB3.out.size))
        clear hb e0 e1 e2 e3 e4 e5
        go_wp2_with fail
        refine (shows_any w4 (HEn.out.below HB4.out)).mono ?_
        rintro r w5 ⟨rfl, hb⟩
        have HB5 := Lib.hid (HB4.out.trans (hb.mono HB4.out.size))
        clear hb
        go_wp2_with fail
        go_ret
        exact ⟨rfl, HB5.out⟩
      · have g1 : decide ((30000 : Int) < (T.size : Int)) = false := decide_eq_false (by omega)
        obtain ⟨z1, _, _, z2⟩ := pkT_zero HPk.out
        have HPT : Hid (∀ w', Below w.heap.size w w' → Calls Tryz.prog 9 #[.string T] w' (ParseToT w' e)) := Lib.hid (fun w' hb => by
          rw [HTt.out]
          exact parseType_any e w' (HEn.out.below hb).1 (HU.out.below hb) z1 HCn.out HPk.out (by omega) (by have := HTz.out; omega) HM.out)
        clear z1 z2 hlong
        go_enter Tryz.func3, Tryz.ntmps3
        go_wp2_with fail
        clear hW1
        refine (HG.out w1 HB1.out).mono ?_
        rintro r w2 ⟨rfl, hb⟩
        have HB2 := Lib.hid (HB1.out.trans (hb.mono HB1.out.size))
        have HE2 := Lib.hid (HE1.out.kept (grown_below hb none) (by simp))
        clear hb e0 e1 e2 e3 e4 e5
        obtain ⟨e0, e1, e2, e3, e4, e5⟩ := HE2.out.c
        go_wp2_with fail
        refine (HCf.out w2 HB2.out).mono ?_
        rintro r w3 ⟨rfl, hb⟩
        have HB3 := Lib.hid (HB2.out.trans (hb.mono HB2.out.size))
        have HE3 := Lib.hid (HE2.out.kept (grown_below hb none) (by simp))
        clear hb e0 e1 e2 e3 e4 e5
        obtain ⟨e0, e1, e2, e3, e4, e5⟩ := HE3.out.c
        go_wp2_with fail
        refine (HS.out w3 HB3.out).mono ?_
        rintro r w4 ⟨rfl, hb⟩
        have HB4 := Lib.hid (HB3.out.trans (hb.mono HB3.out.size))
        have HE4 := Lib.hid (HE3.out.kept (grown_below hb none) (by simp))
        clear hb e0 e1 e2 e3 e4 e5
        go_wp2_with fail
        refine (HPT.out w4 HB4.out).mono ?_
        rintro r w5 ⟨k2, n2, s2, B0, p0, q0, B1, p1, q1, t2, rfl, hr, hb⟩
        have HB5 := Lib.hid (HB4.out.trans (hb.mono HB4.out.size))
        have HE5 := Lib.hid (HE4.out.kept (grown_below hb none) (by simp))
        have HR5 := Lib.hid hr
        have hz5 : w.heap.size < w5.heap.size := HE5.out.lt
        obtain ⟨e0, e1, e2, e3, e4, e5⟩ := HE5.out.c
        have HB6 : Hid (Below w.heap.size w (w5.alloc (.cells #[.int .i64 k2, .int .i64 n2, .string s2, .slice B0 p0 q0, .slice B1 p1 q1, .int .i64 t2] 28))) := Lib.hid (HB5.out.alloc HB5.out.size _)
        have HSm : Hid (Calls Tryz.prog 10 #[.agg #[.int .i64 k, .int .i64 n, .string s, .slice A0 n0 c0, .slice A1 n1 c1, .int .i64 tl], .agg #[.int .i64 k2, .int .i64 n2, .string s2, .slice B0 p0 q0, .slice B1 p1 q1, .int .i64 t2]] (w5.alloc (.cells #[.int .i64 k2, .int .i64 n2, .string s2, .slice B0 p0 q0, .slice B1 p1 q1, .int .i64 t2] 28)) fun r w' => r = .returned (.bool true) ∧ Below (w5.alloc (.cells #[.int .i64 k2, .int .i64 n2, .string s2, .slice B0 p0 q0, .slice B1 p1 q1, .int .i64 t2] 28)).heap.size (w5.alloc (.cells #[.int .i64 k2, .int .i64 n2, .string s2, .slice B0 p0 q0, .slice B1 p1 q1, .int .i64 t2] 28)) w') := Lib.hid (by
          have := rSameType_any e e _ _ (w5.alloc (.cells #[.int .i64 k2, .int .i64 n2, .string s2, .slice B0 p0 q0, .slice B1 p1 q1, .int .i64 t2] 28)) (HRe.out.keep (Same.of_below HB6.out)) ((HR5.out.keep (Same.of_grown (World.grownBy_alloc w5 _ none) (fun _ _ => by simp))).weaken (fun _ _ => trivial))
          rw [sameT_self] at this
          exact this)
        clear hb hr
        go_wp2_with fail
        refine HSm.out.mono ?_
        rintro r w7 ⟨rfl, hb⟩
        have HB7 := Lib.hid (HB6.out.trans (hb.mono HB6.out.size))
        clear hb e0 e1 e2 e3 e4 e5 hz5
        go_wp2_with fail
        refine (shows_any w7 (HEn.out.below HB7.out)).mono ?_
        rintro r w8 ⟨rfl, hb⟩
        have HB8 := Lib.hid (HB7.out.trans (hb.mono HB7.out.size))
        clear hb
        go_wp2_with fail
        go_ret
        exact ⟨rfl, HB8.out⟩
    · have HPk : Hid (pkT e ≠ 0 ∧ T = ⟨#[]⟩ ∧ U = pkT e) := Lib.hid (by
        have h1 := HUe.out
        have h2 := HTe.out
        unfold showT at h1 h2
        split at h1
        · exact absurd h1 hU0
        · rename_i h3
          rw [if_neg h3] at h2
          exact ⟨h3, h2, h1⟩)
      have hT0 : T = ⟨#[]⟩ := HPk.out.2.1
      subst hT0
      have g0 : (U != 0) = true := by simpa using hU0
      have HRC : Hid (∀ w', Below w.heap.size w w' → Calls Tryz.prog 8 #[.agg #[.int .i64 k, .int .i64 n, .string s, .slice A0 n0 c0, .slice A1 n1 c1, .int .i64 tl]] w' fun r w2 => r = .returned (.int .i64 U) ∧ Below w'.heap.size w' w2) := Lib.hid (fun w' hb => by
        have := rCheckType_any e _ _ _ _ _ _ w' (HRe.out.keep (Same.of_below hb))
        rw [ckT_pkT, ← HPk.out.2.2] at this; exact this)
      clear hU0
      go_enter Tryz.func3, Tryz.ntmps3
      go_wp2_with fail
      clear hW1
      refine (HG.out w1 HB1.out).mono ?_
      rintro r w2 ⟨rfl, hb⟩
      have HB2 := Lib.hid (HB1.out.trans (hb.mono HB1.out.size))
      have HE2 := Lib.hid (HE1.out.kept (grown_below hb none) (by simp))
      clear hb e0 e1 e2 e3 e4 e5
      obtain ⟨e0, e1, e2, e3, e4, e5⟩ := HE2.out.c
      go_wp2_with fail
      refine (HCf.out w2 HB2.out).mono ?_
      rintro r w3 ⟨rfl, hb⟩
      have HB3 := Lib.hid (HB2.out.trans (hb.mono HB2.out.size))
      have HE3 := Lib.hid (HE2.out.kept (grown_below hb none) (by simp))
      clear hb e0 e1 e2 e3 e4 e5
      obtain ⟨e0, e1, e2, e3, e4, e5⟩ := HE3.out.c
      go_wp2_with fail
      refine (HS.out w3 HB3.out).mono ?_
      rintro r w4 ⟨rfl, hb⟩
      have HB4 := Lib.hid (HB3.out.trans (hb.mono HB3.out.size))
      have HE4 := Lib.hid (HE3.out.kept (grown_below hb none) (by simp))
      clear hb e0 e1 e2 e3 e4 e5
      obtain ⟨e0, e1, e2, e3, e4, e5⟩ := HE4.out.c
      go_wp2_with fail
      refine (HRC.out w4 HB4.out).mono ?_
      rintro r w5 ⟨rfl, hb⟩
      have HB5 := Lib.hid (HB4.out.trans (hb.mono HB4.out.size))
      clear hb e0 e1 e2 e3 e4 e5
      go_wp2_with fail
      refine (shows_any w5 (HEn.out.below HB5.out)).mono ?_
      rintro r w6 ⟨rfl, hb⟩
      have HB6 := Lib.hid (HB5.out.trans (hb.mono HB5.out.size))
      clear hb
      go_wp2_with fail
      go_ret
      exact ⟨rfl, HB6.out⟩
end Go.Proofs.YtbfojibhdadglaaGreatDoor
