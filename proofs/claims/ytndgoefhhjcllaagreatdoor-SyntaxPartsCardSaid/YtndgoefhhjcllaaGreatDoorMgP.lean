/- Texts put together by program: Within LawPt. -/
import Derived.Test.YtndgoefhhjcllaaGreatDoorMgG
/- A text within another. -/
namespace Go.Proofs.YtndgoefhhjcllaaGreatDoor
open Go.RowKit

set_option maxRecDepth 100000 in
set_option maxHeartbeats 2000000 in
theorem within_any (t u a b : Txt) (w : World) (h : t = a ++ (u ++ b)) (ht : t.length ≤ 1000000000) :
    Calls Tryz.prog 29 #[.string (strB t), .string (strB u)] w fun e w' => e = .returned (.bool true) ∧ w = w' := by
  have hlen : a.length + (u.length + b.length) = t.length := by rw [h, List.length_append, List.length_append]
  obtain ⟨T, hT⟩ : ∃ T, T = strB t := ⟨_, rfl⟩
  obtain ⟨U, hU⟩ : ∃ U, U = strB u := ⟨_, rfl⟩
  have hTs : T.size = t.length := by rw [hT, strB_size]
  have hUs : U.size = u.length := by rw [hU, strB_size]
  obtain ⟨nt, hnt⟩ : ∃ n, n = T.size := ⟨_, rfl⟩
  obtain ⟨nu, hnu⟩ : ∃ n, n = U.size := ⟨_, rfl⟩
  obtain ⟨na, hna⟩ : ∃ n, n = a.length := ⟨_, rfl⟩
  have b1 : na + nu ≤ nt := by omega
  have b2 : nt ≤ 1000000000 := by omega
  have b3 : T.size ≤ 1000000000 := by omega
  have b4 : na + U.size ≤ T.size := by omega
  have HH : Hid ((T.data.toList.drop na).take U.size = U.data.toList) := Lib.hid (by
    rw [hT, hU, data_strB, data_strB, h, hna, List.drop_left, strB_size, List.take_left])
  rw [← hT, ← hU]
  clear h hlen hT hU hTs hUs hnt hnu hna ht b1 b2
  go_enter Tryz.func29, Tryz.ntmps29
  go_wp2_with fail
  go_loopw [5] (fun i wr => ∃ k : Nat, k ≤ na ∧ i = .int .i64 (k : Int) ∧ Hid (wr = w)) (fun i _ => na - (intOf i).toNat)
  case atStart => exact ⟨0, Nat.zero_le _, rfl, Lib.hid rfl⟩
  case round =>
    obtain ⟨k, hk, rfl, hw⟩ := hrel
    obtain rfl := hw.out
    have i0 : (0 : Int) ≤ (k : Int) := by omega
    have i1 : (k : Int) + (U.size : Int) ≤ (T.size : Int) := by omega
    have i2 : k + U.size ≤ T.size := by omega
    obtain ⟨q, hq⟩ : ∃ q, q = ((T.extract k (k + U.size)).toList == U.toList) := ⟨_, rfl⟩
    cases q
    · have hcm : ((T.extract k (k + U.size)).toList == U.toList) = false := hq.symm
      have HK : Hid (k ≠ na) := Lib.hid (fun e => by
        subst e
        have h1 : (T.extract k (k + U.size)).toList = U.toList := by
          rw [ByteArray.toList_eq, ByteArray.toList_eq, ← HH.out]
          simp [ByteArray.data_extract, Array.toList_extract, List.extract]
        rw [h1] at hcm
        simp at hcm)
      clear hq hw
      go_wp2_with fail
      go_roundw
      case rel => exact ⟨k + 1, by have := HK.out; omega, by go_num, by first | exact Lib.hid rfl | exact Lib.hid trivial⟩
      case measure => simp [intOf]; have := HK.out; omega
    · have hcm : ((T.extract k (k + U.size)).toList == U.toList) = true := hq.symm
      clear hq hw
      go_wp2_with fail
      go_ret
      exact ⟨rfl, rfl⟩
end Go.Proofs.YtndgoefhhjcllaaGreatDoor
/- SyntaxParts: each part of a well-formed expression is well formed; sizes, depths and texts. -/
namespace Go.Proofs.YtndgoefhhjcllaaGreatDoor
open Go.RowKit

set_option maxRecDepth 100000 in
set_option maxHeartbeats 8000000 in
theorem parts_law (e : Ex) (k n : Int) (s t : ByteArray) (A0 : Option Addr) (n0 c0 : Nat) (A1 : Option Addr) (n1 c1 : Nat) (A2 : Option Addr) (n2 c2 : Nat) (w : World)
    (hre : RepE (fun _ => True) w e [.int .i64 k, .int .i64 n, .string s, .string t, .slice A0 n0 c0, .slice A1 n1 c1, .slice A2 n2 c2]) (hEn : EnvS w) :
    Calls Tryz.prog 7 #[.agg #[.int .i64 k, .int .i64 n, .string s, .string t, .slice A0 n0 c0, .slice A1 n1 c1, .slice A2 n2 c2]] w fun r w' => r = .returned (.bool true) ∧ Below w.heap.size w w' := by
  obtain ⟨W1, hW1⟩ : ∃ W1, w.alloc (.cells #[.int .i64 k, .int .i64 n, .string s, .string t, .slice A0 n0 c0, .slice A1 n1 c1, .slice A2 n2 c2] 27) = W1 := ⟨_, rfl⟩
  have HB1 : Hid (Below w.heap.size w W1) := Lib.hid (by rw [← hW1]; exact (Below.refl _ _).alloc (Nat.le_refl _) _)
  have HE1 : Hid (EB W1 w.heap.size (.int .i64 k) (.int .i64 n) (.string s) (.string t) (.slice A0 n0 c0) (.slice A1 n1 c1) (.slice A2 n2 c2)) := Lib.hid (by rw [← hW1]; exact EB.new w _ _ _ _ _ _ _)
  have hz : w.heap.size < W1.heap.size := HE1.out.lt
  have HRe := Lib.hid hre
  have HEv := Lib.hid (RepE.evn e ⟨_, hre⟩)
  have HEn := Lib.hid hEn
  have HG := Lib.hid (Great_any (fun _ => True) e (.int .i64 k) (.int .i64 n) (.string s) (.string t) (.slice A0 n0 c0) (.slice A1 n1 c1) (.slice A2 n2 c2) W1 (HRe.out.keep (Same.of_below HB1.out)))
  obtain ⟨G, hG⟩ : ∃ G, G = great e := ⟨_, rfl⟩
  rw [← hG] at HG
  have e0 := HE1.out.c0
  have e1 := HE1.out.c1
  have e2 := HE1.out.c2
  have e3 := HE1.out.c3
  have e4 := HE1.out.c4
  have e5 := HE1.out.c5
  have e6 := HE1.out.c6
  clear hre hEn
  cases G with
  | true =>
    clear hG
    go_enter Tryz.func7, Tryz.ntmps7
    go_wp2_with fail
    clear hW1
    refine HG.out.mono ?_
    rintro r w2 ⟨rfl, hb⟩
    have HB2 := Lib.hid (HB1.out.trans (hb.mono HB1.out.size))
    clear hb e0 e1 e2 e3 e4 e5 e6
    go_wp2_with fail
    refine (shows_any w2 (HEn.out.below HB2.out)).mono ?_
    rintro r w3 ⟨rfl, hb⟩
    have HB3 := Lib.hid (HB2.out.trans (hb.mono HB2.out.size))
    clear hb
    go_wp2_with fail
    go_ret
    exact ⟨rfl, HB3.out⟩
  | false =>
    have hgr := great_hE HEv.out hG.symm
    have HhE : Hid (hE e ≤ 900000) := Lib.hid (by omega)
    have HC := Lib.hid (fun w' hb => Check_any chkN (Lib.hid chkN_says) _ e k n s t A0 n0 c0 A1 n1 c1 A2 n2 c2 w' (HRe.out.keep (Same.of_below hb)) HhE.out (HEn.out.below hb).2.1)
    obtain ⟨V, hV⟩ : ∃ V, V = (msd chkN e).2.2 := ⟨_, rfl⟩
    rw [← hV] at HC
    clear hG
    by_cases hv : V = 0
    · have hok : (msd chkN e).2.2 = 0 := hV.symm.trans hv
      obtain ⟨wf, hsz, hdp⟩ := msd_iff.1 hok
      have hmv := msd_val hok
      have htx : (textE e).length ≤ 3000000 := by
        have h1 := tot_pcs e wf 1
        have h2 := flatten_len (pcs e)
        unfold textE
        omega
      have htp : 0 < (textE e).length := by
        have h1 := pcs_pos wf
        have h2 := flatten_len (pcs e)
        unfold textE
        omega
      have hpl : e.parts.length ≤ 1000 := by unfold Ex.parts; rw [List.length_append]; omega
      have HSh : Hid (∀ w', Below w.heap.size w w' → Calls Tryz.prog 10 #[.agg #[.int .i64 k, .int .i64 n, .string s, .string t, .slice A0 n0 c0, .slice A1 n1 c1, .slice A2 n2 c2]] w' fun r w2 => r = .returned (.tuple #[.string (strB (textE e)), .int .i64 0]) ∧ Below w'.heap.size w' w2) := Lib.hid (fun w' hb => by
        have := Show_any _ e k n s t A0 n0 c0 A1 n1 c1 A2 n2 c2 w' (HRe.out.keep (Same.of_below hb)) HhE.out (HEn.out.below hb).2.1 (HEn.out.below hb).2.2
        rw [show_ok hok] at this; exact this)
      have HPt := Lib.hid (fun w' (hb : Below w.heap.size w w') => Parts_any _ e k n s t A0 n0 c0 A1 n1 c1 A2 n2 c2 w' (HRe.out.keep (Same.of_below hb)) ⟨by omega, by omega⟩)
      obtain ⟨NN, hNN⟩ : ∃ NN, NN = (nodesE 1 e).length := ⟨_, rfl⟩
      obtain ⟨DD, hDD⟩ : ∃ DD, DD = hE e := ⟨_, rfl⟩
      have HSz : Hid (∀ w', Below w.heap.size w w' → Calls Tryz.prog 14 #[.agg #[.int .i64 k, .int .i64 n, .string s, .string t, .slice A0 n0 c0, .slice A1 n1 c1, .slice A2 n2 c2]] w' fun r w2 => r = .returned (.int .i64 NN) ∧ Below w'.heap.size w' w2) := Lib.hid (fun w' hb => by
        have := Size_any chkN (Lib.hid chkN_says) _ e k n s t A0 n0 c0 A1 n1 c1 A2 n2 c2 w' (HRe.out.keep (Same.of_below hb)) HhE.out (HEn.out.below hb).2.1
        rw [hmv] at this; rw [hNN]; exact this)
      have HDp : Hid (∀ w', Below w.heap.size w w' → Calls Tryz.prog 16 #[.agg #[.int .i64 k, .int .i64 n, .string s, .string t, .slice A0 n0 c0, .slice A1 n1 c1, .slice A2 n2 c2]] w' fun r w2 => r = .returned (.int .i64 DD) ∧ Below w'.heap.size w' w2) := Lib.hid (fun w' hb => by
        have := Depth_any chkN (Lib.hid chkN_says) _ e k n s t A0 n0 c0 A1 n1 c1 A2 n2 c2 w' (HRe.out.keep (Same.of_below hb)) HhE.out (HEn.out.below hb).2.1
        rw [hmv] at this; rw [hDD]; exact this)
      have HNsum : Hid (NN = 1 + szL e.parts) := Lib.hid (by rw [hNN]; exact size_parts e)
      have HDsum : Hid (DD = 1 + hL e.parts) := Lib.hid (by rw [hDD]; exact depth_parts e)
      have hNb : NN ≤ 3000 := by omega
      have hDb : DD ≤ 200 := by omega
      have HPart : Hid (∀ x ∈ e.parts, (msd chkN x).2.2 = 0 ∧ (∃ a b, textE e = a ++ (textE x ++ b) ∧ 0 < a.length + b.length) ∧ hE x ≤ 900000 ∧ msd chkN x = (((nodesE 1 x).length : Int), (hE x : Int), 0)) := Lib.hid (fun x hx => by
        have g1 := part_ok hok hx
        have g2 := (msd_iff.1 g1).2.2
        exact ⟨g1, part_text wf (HEv.out (1, e) (by cases e; simp [nodesE])) hx, by omega, msd_val g1⟩)
      obtain ⟨TT, hTT⟩ : ∃ TT, TT = strB (textE e) := ⟨_, rfl⟩
      have HTT := Lib.hid hTT
      have hTs : TT.size = (textE e).length := by rw [hTT, strB_size]
      have ht1 : TT.size ≤ 3000000 := by omega
      have ht2 : 0 < TT.size := by omega
      have ht3 : ((TT.size : Int) == 0) = false := beq_eq_false_iff_ne.2 (by omega)
      rw [← hTT] at HSh
      obtain ⟨L, hL'⟩ : ∃ L, L = e.parts := ⟨_, rfl⟩
      have HL' := Lib.hid hL'
      rw [← hL'] at hpl HNsum HDsum HPart
      obtain ⟨np, hnp⟩ : ∃ q, q = L.length := ⟨_, rfl⟩
      have HNP := Lib.hid hnp
      rw [← hnp] at hpl
      clear hV hmv hok wf hsz hdp htx htp hNN hDD hTs hTT hL' hnp hgr
      subst hv
      go_enter Tryz.func7, Tryz.ntmps7
      go_wp2_with fail
      clear hW1
      refine HG.out.mono ?_
      rintro r w2 ⟨rfl, hb⟩
      have HB2 := Lib.hid (HB1.out.trans (hb.mono HB1.out.size))
      have HE2 := Lib.hid (HE1.out.kept (grown_below hb none) (by simp))
      clear hb e0 e1 e2 e3 e4 e5 e6
      have e0 := HE2.out.c0
      have e1 := HE2.out.c1
      have e2 := HE2.out.c2
      have e3 := HE2.out.c3
      have e4 := HE2.out.c4
      have e5 := HE2.out.c5
      have e6 := HE2.out.c6
      go_wp2_with fail
      refine (HC.out w2 HB2.out).mono ?_
      rintro r w3 ⟨rfl, hb⟩
      have HB3 := Lib.hid (HB2.out.trans (hb.mono HB2.out.size))
      have HE3 := Lib.hid (HE2.out.kept (grown_below hb none) (by simp))
      clear hb e0 e1 e2 e3 e4 e5 e6
      have e0 := HE3.out.c0
      have e1 := HE3.out.c1
      have e2 := HE3.out.c2
      have e3 := HE3.out.c3
      have e4 := HE3.out.c4
      have e5 := HE3.out.c5
      have e6 := HE3.out.c6
      go_wp2_with fail
      refine (HSh.out w3 HB3.out).mono ?_
      rintro r w4 ⟨rfl, hb⟩
      have HB4 := Lib.hid (HB3.out.trans (hb.mono HB3.out.size))
      have HE4 := Lib.hid (HE3.out.kept (grown_below hb none) (by simp))
      clear hb e0 e1 e2 e3 e4 e5 e6
      have e0 := HE4.out.c0
      have e1 := HE4.out.c1
      have e2 := HE4.out.c2
      have e3 := HE4.out.c3
      have e4 := HE4.out.c4
      have e5 := HE4.out.c5
      have e6 := HE4.out.c6
      go_wp2_with fail
      refine (HPt.out w4 HB4.out).mono ?_
      rintro r w5 ⟨A, c, rfl, hpa, hb⟩
      have HB5 := Lib.hid (HB4.out.trans (hb.mono HB4.out.size))
      have HE5 := Lib.hid (HE4.out.kept (grown_below hb none) (by simp))
      have HPA := Lib.hid hpa
      rw [← HL'.out] at HPA ⊢
      rw [← HNP.out]
      clear hb hpa e0 e1 e2 e3 e4 e5 e6 HSh HPt HC HG
      go_wp2_with fail
      go_loopw [6, 7, 8] (fun nv dv iv wr => ∃ kk : Nat, kk ≤ np ∧ iv = .int .i64 (kk : Int) ∧ nv = .int .i64 ((1 + szL (L.take kk) : Nat) : Int) ∧ dv = .int .i64 ((hL (L.take kk) : Nat) : Int) ∧ Hid (Below w5.heap.size w5 wr)) (fun _ _ iv _ => np - (intOf iv).toNat)
      case atStart => exact ⟨0, Nat.zero_le _, rfl, rfl, rfl, Lib.hid (Below.refl _ _)⟩
      case round =>
        obtain ⟨kk, hkk, rfl, rfl, rfl, hB⟩ := hrel
        have HBr := Lib.hid (HB5.out.trans (hB.out.mono HB5.out.size))
        have j0 : (0 : Int) ≤ (kk : Int) := by omega
        by_cases hkl : kk < np
        · have hkl' : kk < L.length := by rw [← HNP.out]; exact hkl
          have i1 : (kk : Int) < (np : Int) := by omega
          obtain ⟨x, hx⟩ : ∃ x, x = L[kk] := ⟨_, rfl⟩
          have HXl : Hid (L[kk]? = some x) := Lib.hid (by rw [hx]; exact List.getElem?_eq_getElem hkl')
          obtain ⟨hx0, ⟨ha, hb, hab, hpos⟩, hxh, hxm⟩ := HPart.out x (by rw [hx]; exact List.getElem_mem hkl')
          have HTs : Hid (szL (L.take (kk + 1)) = szL (L.take kk) + (nodesE 1 x).length) := Lib.hid (by rw [take_succ_of hkl', szL_snoc, ← hx])
          have HTh : Hid (hL (L.take (kk + 1)) = max (hL (L.take kk)) (hE x)) := Lib.hid (by rw [take_succ_of hkl', hL_snoc, ← hx])
          have b1 := szL_take L (kk + 1)
          have b2 := hL_take L (kk + 1)
          rw [HTs.out] at b1
          rw [HTh.out] at b2
          have b3 := HNsum.out
          have b4 := HDsum.out
          obtain ⟨sx, hsx⟩ : ∃ q, q = (nodesE 1 x).length := ⟨_, rfl⟩
          obtain ⟨hX, hhX⟩ : ∃ q, q = hE x := ⟨_, rfl⟩
          obtain ⟨s1, hs1⟩ : ∃ q, q = szL (L.take kk) := ⟨_, rfl⟩
          obtain ⟨h1, hh1⟩ : ∃ q, q = hL (L.take kk) := ⟨_, rfl⟩
          rw [← hsx] at hxm b1 HTs
          rw [← hhX] at hxm b2 HTh
          rw [← hs1] at b1 HTs ⊢
          rw [← hh1] at b2 HTh ⊢
          have b5 : s1 + sx ≤ 3000 := by omega
          have b6 : h1 ≤ 1000 := by omega
          have b7 : hX ≤ 1000 := by omega
          clear hx b1 b2 b3 b4 hs1 hh1 hsx hhX
          obtain ⟨b, off, rfl⟩ := HPA.out.addr (by rw [← HNP.out]; omega)
          obtain ⟨⟨hb1, hb2⟩, k0, n0, s0, t0, B0, q0, r0, B1, q1, r1, B2, q2, r2, hc⟩ := HPA.out.at HXl.out
          obtain ⟨UU, hUU⟩ : ∃ UU, UU = strB (textE x) := ⟨_, rfl⟩
          have hUs : UU.size < TT.size := by
            have h2 := congrArg List.length hab
            rw [List.length_append, List.length_append] at h2
            rw [hUU, HTT.out, strB_size, strB_size]; omega
          have hUd : decide ((UU.size : Int) ≥ (TT.size : Int)) = false := decide_eq_false (by omega)
          have hUd2 : decide ((TT.size : Int) ≤ (UU.size : Int)) = false := decide_eq_false (by omega)
          have HWi : Hid (∀ w', Calls Tryz.prog 29 #[.string TT, .string UU] w' fun r w2 => r = .returned (.bool true) ∧ w' = w2) := Lib.hid (fun w' => by
            have := within_any (textE e) (textE x) ha hb w' hab (by have := strB_size (textE e); rw [← HTT.out] at this; omega)
            rw [← HTT.out, ← hUU] at this; exact this)
          have HSh : Hid (∀ w', Below w5.heap.size w5 w' → Calls Tryz.prog 10 #[.agg #[.int .i64 k0, .int .i64 n0, .string s0, .string t0, .slice B0 q0 r0, .slice B1 q1 r1, .slice B2 q2 r2]] w' fun r w2 => r = .returned (.tuple #[.string UU, .int .i64 0]) ∧ Below w'.heap.size w' w2) := Lib.hid (fun w' hb => by
            have := Show_any _ x k0 n0 s0 t0 B0 q0 r0 B1 q1 r1 B2 q2 r2 w' (hc.rep.keep (Same.of_below hb)) (by omega) (HEn.out.below (HB5.out.trans (hb.mono HB5.out.size))).2.1 (HEn.out.below (HB5.out.trans (hb.mono HB5.out.size))).2.2
            rw [show_ok hx0, ← hUU] at this; exact this)
          have HCx : Hid (∀ w', Below w5.heap.size w5 w' → Calls Tryz.prog 12 #[.agg #[.int .i64 k0, .int .i64 n0, .string s0, .string t0, .slice B0 q0 r0, .slice B1 q1 r1, .slice B2 q2 r2]] w' fun r w2 => r = .returned (.int .i64 0) ∧ Below w'.heap.size w' w2) := Lib.hid (fun w' hb => by
            have := Check_any chkN (Lib.hid chkN_says) _ x k0 n0 s0 t0 B0 q0 r0 B1 q1 r1 B2 q2 r2 w' (hc.rep.keep (Same.of_below hb)) (by omega) (HEn.out.below (HB5.out.trans (hb.mono HB5.out.size))).2.1
            rw [hxm] at this; exact this)
          have HSzx : Hid (∀ w', Below w5.heap.size w5 w' → Calls Tryz.prog 14 #[.agg #[.int .i64 k0, .int .i64 n0, .string s0, .string t0, .slice B0 q0 r0, .slice B1 q1 r1, .slice B2 q2 r2]] w' fun r w2 => r = .returned (.int .i64 (sx : Int)) ∧ Below w'.heap.size w' w2) := Lib.hid (fun w' hb => by
            have := Size_any chkN (Lib.hid chkN_says) _ x k0 n0 s0 t0 B0 q0 r0 B1 q1 r1 B2 q2 r2 w' (hc.rep.keep (Same.of_below hb)) (by omega) (HEn.out.below (HB5.out.trans (hb.mono HB5.out.size))).2.1
            rw [hxm] at this; exact this)
          have HDpx : Hid (∀ w', Below w5.heap.size w5 w' → Calls Tryz.prog 16 #[.agg #[.int .i64 k0, .int .i64 n0, .string s0, .string t0, .slice B0 q0 r0, .slice B1 q1 r1, .slice B2 q2 r2]] w' fun r w2 => r = .returned (.int .i64 (hX : Int)) ∧ Below w'.heap.size w' w2) := Lib.hid (fun w' hb => by
            have := Depth_any chkN (Lib.hid chkN_says) _ x k0 n0 s0 t0 B0 q0 r0 B1 q1 r1 B2 q2 r2 w' (hc.rep.keep (Same.of_below hb)) (by omega) (HEn.out.below (HB5.out.trans (hb.mono HB5.out.size))).2.1
            rw [hxm] at this; exact this)
          have HKp : Hid (∀ w' o, Below w5.heap.size w5 w' → w'.cell? ⟨b, o, none⟩ = w5.cell? ⟨b, o, none⟩) := Lib.hid (fun w' o h => Below.cell (p := ⟨b, o, none⟩) h hb1)
          have d0 := (HKp.out wr (off + kk * 7) hB.out).trans hc.d0
          have d1 := (HKp.out wr (off + kk * 7 + 1) hB.out).trans hc.d1
          have d2 := (HKp.out wr (off + kk * 7 + 2) hB.out).trans hc.d2
          have d3 := (HKp.out wr (off + kk * 7 + 3) hB.out).trans hc.d3
          have d4 := (HKp.out wr (off + kk * 7 + 4) hB.out).trans hc.d4
          have d5 := (HKp.out wr (off + kk * 7 + 5) hB.out).trans hc.d5
          have d6 := (HKp.out wr (off + kk * 7 + 6) hB.out).trans hc.d6
          have HCc := Lib.hid hc
          clear hc hab hx0 hxm hUU
          go_wp2_with fail
          refine (HSh.out wr hB.out).mono ?_
          rintro r w6 ⟨rfl, hb⟩
          have HB6 := Lib.hid (hB.out.trans (hb.mono hB.out.size))
          clear hb d0 d1 d2 d3 d4 d5 d6
          have d0 := (HKp.out w6 (off + kk * 7) HB6.out).trans HCc.out.d0
          have d1 := (HKp.out w6 (off + kk * 7 + 1) HB6.out).trans HCc.out.d1
          have d2 := (HKp.out w6 (off + kk * 7 + 2) HB6.out).trans HCc.out.d2
          have d3 := (HKp.out w6 (off + kk * 7 + 3) HB6.out).trans HCc.out.d3
          have d4 := (HKp.out w6 (off + kk * 7 + 4) HB6.out).trans HCc.out.d4
          have d5 := (HKp.out w6 (off + kk * 7 + 5) HB6.out).trans HCc.out.d5
          have d6 := (HKp.out w6 (off + kk * 7 + 6) HB6.out).trans HCc.out.d6
          go_wp2_with fail
          refine (HCx.out w6 HB6.out).mono ?_
          rintro r w7 ⟨rfl, hb⟩
          have HB7 := Lib.hid (HB6.out.trans (hb.mono HB6.out.size))
          clear hb d0 d1 d2 d3 d4 d5 d6
          go_wp2_with fail
          refine (HWi.out w7).mono ?_
          rintro r w7' ⟨rfl, rfl⟩
          have hlt : b < w7.heap.size := Nat.lt_of_lt_of_le hb1 HB7.out.size
          have hs0 : PtS w7 w7 := Below.refl _ _
          have d0 := (HKp.out w7 (off + kk * 7) HB7.out).trans HCc.out.d0
          have d1 := (HKp.out w7 (off + kk * 7 + 1) HB7.out).trans HCc.out.d1
          have d2 := (HKp.out w7 (off + kk * 7 + 2) HB7.out).trans HCc.out.d2
          have d3 := (HKp.out w7 (off + kk * 7 + 3) HB7.out).trans HCc.out.d3
          have d4 := (HKp.out w7 (off + kk * 7 + 4) HB7.out).trans HCc.out.d4
          have d5 := (HKp.out w7 (off + kk * 7 + 5) HB7.out).trans HCc.out.d5
          have d6 := (HKp.out w7 (off + kk * 7 + 6) HB7.out).trans HCc.out.d6
          have HP : Hid (∀ w', PtS w7 w' → Below w5.heap.size w5 w') := Lib.hid (fun w' h => HB7.out.trans (Below.mono (show Below w7.heap.size w7 w' from h) HB7.out.size))
          go_wp2_with fail
          go_region_held3 (fun w' => w'.cell? ⟨b, off + kk * 7, none⟩ = some (.int .i64 k0) ∧ w'.cell? ⟨b, off + kk * 7 + 1, none⟩ = some (.int .i64 n0) ∧ w'.cell? ⟨b, off + kk * 7 + 2, none⟩ = some (.string s0) ∧ w'.cell? ⟨b, off + kk * 7 + 3, none⟩ = some (.string t0) ∧ w'.cell? ⟨b, off + kk * 7 + 4, none⟩ = some (.slice B0 q0 r0) ∧ w'.cell? ⟨b, off + kk * 7 + 5, none⟩ = some (.slice B1 q1 r1) ∧ w'.cell? ⟨b, off + kk * 7 + 6, none⟩ = some (.slice B2 q2 r2) ∧ PtS w7 w')
            ((refine PtS.all hlt d0 d1 d2 d3 d4 d5 d6 ?_; first | assumption | exact PtS.drew hs0 | exact PtS.below (by assumption) (PtS.drew hs0) | exact PtS.below (by assumption) (PtS.below (by assumption) (PtS.drew hs0))))
            (first | (go_at_call 14; refine (HSzx.out _ (HP.out _ (by first | assumption | exact PtS.drew hs0 | exact PtS.below (by assumption) (PtS.drew hs0)))).mono ?_; rintro e w' ⟨rfl, hb⟩) | (go_at_call 16; refine (HDpx.out _ (HP.out _ (by first | assumption | exact PtS.drew hs0 | exact PtS.below (by assumption) (PtS.drew hs0)))).mono ?_; rintro e w' ⟨rfl, hb⟩))
          rename_i hh
          have HBn := Lib.hid (HP.out _ hh.2.2.2.2.2.2.2)
          clear hh hs0 d0 d1 d2 d3 d4 d5 d6 HP HKp
          go_wp2_with fail
          go_roundw
          case rel => exact ⟨kk + 1, by omega, by go_num, by rw [HTs.out]; exact congrArg (Value.int .i64) (by rw [IntWalk.i64_in _ (by omega)]; omega), by rw [HTh.out]; exact congrArg (Value.int .i64) (by omega), HBn⟩
          case measure => simp [intOf]; omega
        · obtain rfl : kk = np := by omega
          have HEr := Lib.hid (HE5.out.kept (grown_below hB.out none) (by simp))
          have e0 := HEr.out.c0
          have e1 := HEr.out.c1
          have e2 := HEr.out.c2
          have e3 := HEr.out.c3
          have e4 := HEr.out.c4
          have e5 := HEr.out.c5
          have e6 := HEr.out.c6
          have HtL : Hid (L.take kk = L) := Lib.hid (List.take_of_length_le (by rw [HNP.out]; exact Nat.le_refl _))
          rw [HtL.out, show 1 + szL L = NN from HNsum.out.symm]
          obtain ⟨hl, hhl⟩ : ∃ q, q = hL L := ⟨_, rfl⟩
          have hDe : DD = 1 + hl := by rw [hhl]; exact HDsum.out
          rw [← hhl]
          have hde : ((DD : Int) == (hl : Int) + 1) = true := beq_iff_eq.2 (by omega)
          have hdl : (hl : Int) ≤ 1000 := by omega
          have HDe := Lib.hid hDe
          clear hhl hDe
          go_wp2_with fail
          refine (HSz.out wr HBr.out).mono ?_
          rintro r w6 ⟨rfl, hb⟩
          have HB6 := Lib.hid (HBr.out.trans (hb.mono HBr.out.size))
          have HE6 := Lib.hid (HEr.out.kept (grown_below hb none) (by simp))
          clear hb e0 e1 e2 e3 e4 e5 e6
          have e0 := HE6.out.c0
          have e1 := HE6.out.c1
          have e2 := HE6.out.c2
          have e3 := HE6.out.c3
          have e4 := HE6.out.c4
          have e5 := HE6.out.c5
          have e6 := HE6.out.c6
          go_wp2_with fail
          refine (HDp.out w6 HB6.out).mono ?_
          rintro r w7 ⟨rfl, hb⟩
          have HB7 := Lib.hid (HB6.out.trans (hb.mono HB6.out.size))
          clear hb e0 e1 e2 e3 e4 e5 e6
          go_wp2_with fail
          refine (shows_any w7 (HEn.out.below HB7.out)).mono ?_
          rintro r w8 ⟨rfl, hb⟩
          have HB8 := Lib.hid (HB7.out.trans (hb.mono HB7.out.size))
          clear hb
          go_wp2_with fail
          go_ret
          exact ⟨rfl, HB8.out⟩
    · have hvb : (V == 0) = false := by simpa using hv
      clear hV hv
      go_enter Tryz.func7, Tryz.ntmps7
      go_wp2_with fail
      clear hW1
      refine HG.out.mono ?_
      rintro r w2 ⟨rfl, hb⟩
      have HB2 := Lib.hid (HB1.out.trans (hb.mono HB1.out.size))
      have HE2 := Lib.hid (HE1.out.kept (grown_below hb none) (by simp))
      clear hb e0 e1 e2 e3 e4 e5 e6
      have e0 := HE2.out.c0
      have e1 := HE2.out.c1
      have e2 := HE2.out.c2
      have e3 := HE2.out.c3
      have e4 := HE2.out.c4
      have e5 := HE2.out.c5
      have e6 := HE2.out.c6
      go_wp2_with fail
      refine (HC.out w2 HB2.out).mono ?_
      rintro r w3 ⟨rfl, hb⟩
      have HB3 := Lib.hid (HB2.out.trans (hb.mono HB2.out.size))
      clear hb e0 e1 e2 e3 e4 e5 e6
      go_wp2_with fail
      refine (shows_any w3 (HEn.out.below HB3.out)).mono ?_
      rintro r w4 ⟨rfl, hb⟩
      have HB4 := Lib.hid (HB3.out.trans (hb.mono HB3.out.size))
      clear hb
      go_wp2_with fail
      go_ret
      exact ⟨rfl, HB4.out⟩
end Go.Proofs.YtndgoefhhjcllaaGreatDoor
