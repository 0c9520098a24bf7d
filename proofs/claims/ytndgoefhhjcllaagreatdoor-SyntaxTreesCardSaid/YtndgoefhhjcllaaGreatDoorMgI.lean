/- Texts put together by program: RChkH RChkI RChkJ RLeft RLeftW RCheck RDepth RSizeD GrOk. -/
import Derived.Test.YtndgoefhhjcllaaGreatDoorMgH
import Derived.Test.YtndgoefhhjcllaaGreatDoorMgG
import Derived.Deep.LoopGhost
/- The reference's check of one node is the program's. -/
namespace Go.Proofs.YtndgoefhhjcllaaGreatDoor
open Go.RowKit

theorem armsErr_nil0 (ops : Hds) (h : ops = []) : armsErr 0 [] ops = 0 := by subst h; rfl
set_option maxRecDepth 100000 in
set_option maxHeartbeats 16000000 in
theorem node_any (x : Ex) (k n : Int) (s t : ByteArray) (A0 : Option Addr) (n0 c0 : Nat) (A1 : Option Addr) (n1 c1 : Nat) (A2 : Option Addr) (n2 c2 : Nat) (w : World)
    (hre : RepE (fun _ => True) w x [.int .i64 k, .int .i64 n, .string s, .string t, .slice A0 n0 c0, .slice A1 n1 c1, .slice A2 n2 c2]) (h9 : x.ns.length ≤ 1000) (h99 : ∀ o ∈ x.ops, o.2.length ≤ 1000) :
    Calls Tryz.prog 93 #[.agg #[.int .i64 k, .int .i64 n, .string s, .string t, .slice A0 n0 c0, .slice A1 n1 c1, .slice A2 n2 c2]] w fun e w' => e = .returned (.int .i64 (chkN x)) ∧ Below w.heap.size w w' := by
  obtain ⟨R, hR⟩ : ∃ R, R = chkN x := ⟨_, rfl⟩
  have HR := Lib.hid hR
  rw [← hR]
  clear hR
  cases x with
  | mk xk xn xs xt ns l ops bs =>
  obtain ⟨An, cn, Al, cl, Aa, ca, e, hf, hn, hl, ha, ho⟩ := hre
  simp only [exCells, List.cons.injEq, Value.int.injEq, Value.string.injEq, Value.slice.injEq, and_true, true_and] at e
  obtain ⟨rfl, rfl, rfl, rfl, ⟨rfl, rfl, rfl⟩, ⟨rfl, rfl, rfl⟩, rfl, rfl, rfl⟩ := e
  have hA : ArmsHd w A2 ops := fun h0 => by
    obtain ⟨b, off, rfl, _, hlt, hr⟩ := ha (fun e => h0 (List.length_eq_zero_iff.1 (by rw [ho, e]; rfl)))
    exact RepA.heads ho hlt hr h0
  have HA := Lib.hid hA
  have HN := Lib.hid hn
  have HF := Lib.hid hf
  have HO := Lib.hid ho
  have H9 : Hid (ns.length ≤ 1000) := Lib.hid h9
  have H99 : Hid (∀ o ∈ ops, o.2.length ≤ 1000) := Lib.hid h99
  clear hA hn hf ha hl ho h9 h99
  by_cases hk : 0 ≤ k ∧ k < 20
  · obtain ⟨kn, rfl⟩ : ∃ kn : Nat, k = (kn : Int) := ⟨k.toNat, by omega⟩
    have hkn : kn < 20 := by omega
    have i0 : (0 : Int) ≤ (kn : Int) := by omega
    have i1 : (kn : Int) < 20 := by omega
    clear hk
    obtain ⟨nl, hnl⟩ : ∃ q, q = ns.length := ⟨_, rfl⟩
    obtain ⟨ll, hll⟩ : ∃ q, q = l.length := ⟨_, rfl⟩
    obtain ⟨al, hal⟩ : ∃ q, q = bs.length := ⟨_, rfl⟩
    obtain ⟨x0, hx0⟩ : ∃ q, q = shOf kn 0 := ⟨_, rfl⟩
    obtain ⟨x1, hx1⟩ : ∃ q, q = shOf kn 1 := ⟨_, rfl⟩
    obtain ⟨x2, hx2⟩ : ∃ q, q = shOf kn 2 := ⟨_, rfl⟩
    obtain ⟨x3, hx3⟩ : ∃ q, q = shOf kn 3 := ⟨_, rfl⟩
    obtain ⟨x4, hx4⟩ : ∃ q, q = (shOf kn 4 == 1) := ⟨_, rfl⟩
    obtain ⟨x5, hx5⟩ : ∃ q, q = shOf kn 5 := ⟨_, rfl⟩
    obtain ⟨x6, hx6⟩ : ∃ q, q = shOf kn 6 := ⟨_, rfl⟩
    obtain ⟨q5, hq5⟩ : ∃ q, q = (decide (x5 ≤ n) && decide (n ≤ x6)) := ⟨_, rfl⟩
    obtain ⟨q0, hq0⟩ : ∃ q, q = rCls x0 xs := ⟨_, rfl⟩
    obtain ⟨q1, hq1⟩ : ∃ q, q = rCls x1 xt := ⟨_, rfl⟩
    obtain ⟨E7, hE7⟩ : ∃ q, q = nmsErr kn ns := ⟨_, rfl⟩
    obtain ⟨E8, hE8⟩ : ∃ q, q = armsErr (useOf kn 7) [] ops := ⟨_, rfl⟩
    have HRK : Hid (R = if q5 = false then 1 else if q0 = false then 4 else if q1 = false then 4 else if manyB kn nl = false then 7 else if partsB kn ll = false then 7 else if armsB kn al = false then 7 else if E7 = 0 then E8 else E7) := Lib.hid (by
      rw [HR.out]
      unfold chkN
      rw [if_pos ⟨i0, i1⟩, hq5, hq0, hq1, hx5, hx6, hx0, hx1, num_n kn hkn, cls_s kn hkn, cls_t kn hkn, many_n kn hkn, parts_n kn hkn, arms_n kn hkn, hE7, hE8, hnl, hll, hal]
      rfl)
    have HMB : Hid (manyB kn nl = (((nl : Int) == x2) || (((kn : Int) == 17) && (decide ((1 : Int) ≤ nl) && decide ((nl : Int) ≤ 13))))) := Lib.hid (by
      unfold manyB; rw [hx2, Bool.eq_iff_iff]; simp; omega)
    have HPB : Hid (partsB kn ll = (((ll : Int) == x3) || (((kn : Int) == 10) && decide ((ll : Int) ≤ 4)))) := Lib.hid (by
      unfold partsB; rw [hx3, Bool.eq_iff_iff]; simp; omega)
    have HAB : Hid (armsB kn al = ((x4 || decide ((al : Int) ≤ 0)) && decide ((al : Int) ≤ 9))) := Lib.hid (by
      unfold armsB; rw [hx4, Bool.eq_iff_iff]; simp; omega)
    have HE8 : Hid (x4 = false → (al : Int) ≤ 0 → E8 = 0) := Lib.hid (fun h h2 => by
      rw [hE8]
      rcases use7 kn hkn with ⟨a, b⟩ | ⟨a, _⟩ | ⟨a, _⟩
      · rw [b]; exact armsErr_nil0 ops (List.length_eq_zero_iff.1 (by rw [HO.out, ← hal]; omega))
      · rw [hx4, a] at h; cases h
      · rw [hx4, a] at h; cases h)
    have HAr : Hid (x4 = true → ∀ wx, Below w.heap.size w wx → Calls Tryz.prog 144 #[.agg #[.int .i64 (kn : Int), .int .i64 n, .string (strB xs), .string (strB xt), .slice A0 nl c0, .slice A1 ll c1, .slice A2 al c2]] wx fun e w' => e = .returned (.int .i64 E8) ∧ Below wx.heap.size wx w') := Lib.hid (fun h wx hb => by
      rw [hE8, hnl, hll, hal, ← HO.out]
      rcases use7 kn hkn with ⟨a, b⟩ | ⟨a, b, c⟩ | ⟨a, b, c⟩
      · rw [hx4, a] at h; cases h
      · rw [c]
        subst b
        exact armsM_any n (strB xs) (strB xt) _ _ A2 c2 ops wx (HA.out.below hb) (by rw [HO.out]; exact HF.out.hca) H99.out
      · rw [c]
        exact armsH_any (kn : Int) n (strB xs) (strB xt) _ _ A2 c2 ops wx (beq_eq_false_iff_ne.2 (by omega)) (HA.out.below hb) (by rw [HO.out]; exact HF.out.hca) H99.out)
    have HNm : Hid (manyB kn nl = true → ∀ wx, Below w.heap.size w wx → Calls Tryz.prog 143 #[.agg #[.int .i64 (kn : Int), .int .i64 n, .string (strB xs), .string (strB xt), .slice A0 nl c0, .slice A1 ll c1, .slice A2 al c2]] wx fun e w' => e = .returned (.int .i64 E7) ∧ Below wx.heap.size wx w') := Lib.hid (fun h wx hb => by
      rw [hE7, hnl, hll, hal]
      refine names_any (kn : Int) n (strB xs) (strB xt) A0 c0 _ _ ns wx (HN.out.keep (Same.of_below hb)) HF.out.hcn H9.out HF.out.hns (fun h17 => ?_)
      have h17' : kn = 17 := by omega
      subst h17'
      rw [← hnl]
      unfold manyB at h
      have : shOf 17 2 = 1 := rfl
      rw [this] at h
      simp at h
      omega)
    have HI1 : Hid (∀ wx, Calls Tryz.prog 105 #[.int .i64 (kn : Int), .int .i64 0, .int .i64 19] wx fun e w' => e = .returned (.bool true) ∧ wx = w') := Lib.hid (fun wx => (In_any _ _ _ wx).mono fun e w' h => ⟨by rw [h.1]; apply ret_bool; simp; omega, h.2⟩)
    have HI2 : Hid (∀ wx, Calls Tryz.prog 105 #[.int .i64 n, .int .i64 x5, .int .i64 x6] wx fun e w' => e = .returned (.bool q5) ∧ wx = w') := Lib.hid (fun wx => by rw [hq5]; exact In_any _ _ _ wx)
    have HC0 : Hid (∀ wx, Calls Tryz.prog 106 #[.string (strB xs), .int .i64 x0] wx fun e w' => e = .returned (.bool q0) ∧ Below wx.heap.size wx w') := Lib.hid (fun wx => by rw [hq0]; exact class_any xs x0 wx HF.out.hs)
    have HC1 : Hid (∀ wx, Calls Tryz.prog 106 #[.string (strB xt), .int .i64 x1] wx fun e w' => e = .returned (.bool q1) ∧ Below wx.heap.size wx w') := Lib.hid (fun wx => by rw [hq1]; exact class_any xt x1 wx HF.out.ht)
    have HX : Hid (∀ (W : World) (b : Nat), (∀ k, k < 20 → W.cell? ⟨b, k * 7, none⟩ = some (.int .i64 (shOf k 0)) ∧ W.cell? ⟨b, k * 7 + 1, none⟩ = some (.int .i64 (shOf k 1)) ∧ W.cell? ⟨b, k * 7 + 2, none⟩ = some (.int .i64 (shOf k 2)) ∧ W.cell? ⟨b, k * 7 + 3, none⟩ = some (.int .i64 (shOf k 3)) ∧
        W.cell? ⟨b, k * 7 + 4, none⟩ = some (.bool (shOf k 4 == 1)) ∧ W.cell? ⟨b, k * 7 + 5, none⟩ = some (.int .i64 (shOf k 5)) ∧ W.cell? ⟨b, k * 7 + 6, none⟩ = some (.int .i64 (shOf k 6))) →
        W.cell? ⟨b, kn * 7, none⟩ = some (.int .i64 x0) ∧ W.cell? ⟨b, kn * 7 + 1, none⟩ = some (.int .i64 x1) ∧ W.cell? ⟨b, kn * 7 + 2, none⟩ = some (.int .i64 x2) ∧ W.cell? ⟨b, kn * 7 + 3, none⟩ = some (.int .i64 x3) ∧ W.cell? ⟨b, kn * 7 + 4, none⟩ = some (.bool x4) ∧ W.cell? ⟨b, kn * 7 + 5, none⟩ = some (.int .i64 x5) ∧ W.cell? ⟨b, kn * 7 + 6, none⟩ = some (.int .i64 x6)) := Lib.hid (fun W b h => by
      rw [hx0, hx1, hx2, hx3, hx4, hx5, hx6]; exact h kn hkn)
    rw [← hnl, ← hll, ← hal]
    clear hnl hll hal hx0 hx1 hx2 hx3 hx4 hx5 hx6 hq5 hq0 hq1 hE7 hE8
    obtain ⟨W1, hW1⟩ : ∃ W1, w.alloc (.cells #[.int .i64 (kn : Int), .int .i64 n, .string (strB xs), .string (strB xt), .slice A0 nl c0, .slice A1 ll c1, .slice A2 al c2] 27) = W1 := ⟨_, rfl⟩
    have HB1 : Hid (Below w.heap.size w W1) := Lib.hid (by rw [← hW1]; exact (Below.refl _ _).alloc (Nat.le_refl _) _)
    have HE1 : Hid (EB W1 w.heap.size (.int .i64 (kn : Int)) (.int .i64 n) (.string (strB xs)) (.string (strB xt)) (.slice A0 nl c0) (.slice A1 ll c1) (.slice A2 al c2)) := Lib.hid (by rw [← hW1]; exact EB.new w _ _ _ _ _ _ _)
    have hz : w.heap.size < W1.heap.size := HE1.out.lt
    go_enter Tryz.func93, Tryz.ntmps93
    go_wp2_with fail
    clear hW1
    refine (shapes_any W1).mono ?_
    rintro e w2 ⟨Ash, rfl, ⟨b, rfl, hlb, hsh⟩, hb⟩
    have HE2 := Lib.hid (HE1.out.kept (grown_below hb none) (by simp))
    have HB2 := Lib.hid (HB1.out.trans (hb.mono HB1.out.size))
    obtain ⟨s0, s1, s2, s3, s4, s5, s6⟩ := HX.out w2 b hsh
    obtain ⟨W3, hW3⟩ : ∃ W3, w2.alloc (.cells #[.int .i64 x0, .int .i64 x1, .int .i64 x2, .int .i64 x3, .bool x4, .int .i64 x5, .int .i64 x6] 175) = W3 := ⟨_, rfl⟩
    have HB3 : Hid (Below w2.heap.size w2 W3) := Lib.hid (by rw [← hW3]; exact (Below.refl _ _).alloc (Nat.le_refl _) _)
    have hg3 : w2.heap.size < W3.heap.size := by rw [← hW3]; simp
    have HK : Hid (∀ w', Below W3.heap.size W3 w' → (w'.cell? ⟨w2.heap.size, 0, none⟩ = some (.int .i64 x0) ∧ w'.cell? ⟨w2.heap.size, 1, none⟩ = some (.int .i64 x1) ∧ w'.cell? ⟨w2.heap.size, 2, none⟩ = some (.int .i64 x2) ∧ w'.cell? ⟨w2.heap.size, 3, none⟩ = some (.int .i64 x3) ∧ w'.cell? ⟨w2.heap.size, 4, none⟩ = some (.bool x4) ∧ w'.cell? ⟨w2.heap.size, 5, none⟩ = some (.int .i64 x5) ∧ w'.cell? ⟨w2.heap.size, 6, none⟩ = some (.int .i64 x6)) ∧
        EB w' w.heap.size (.int .i64 (kn : Int)) (.int .i64 n) (.string (strB xs)) (.string (strB xt)) (.slice A0 nl c0) (.slice A1 ll c1) (.slice A2 al c2) ∧ Below w.heap.size w w') := Lib.hid (fun w' hb => by
      have hbl := hW3 ▸ heap_alloc_new w2 (.cells #[.int .i64 x0, .int .i64 x1, .int .i64 x2, .int .i64 x3, .bool x4, .int .i64 x5, .int .i64 x6] 175)
      have hbl2 := (hb.block _ hg3).trans hbl
      have HB23 := HB2.out.trans (HB3.out.mono HB2.out.size)
      exact ⟨⟨cell_of_row _ _ 0 _ _ (0, 0) hbl2, cell_of_row _ _ 1 _ _ (0, 0) hbl2, cell_of_row _ _ 2 _ _ (0, 0) hbl2, cell_of_row _ _ 3 _ _ (0, 0) hbl2, cell_of_row _ _ 4 _ _ (0, 0) hbl2, cell_of_row _ _ 5 _ _ (0, 0) hbl2, cell_of_row _ _ 6 _ _ (0, 0) hbl2⟩, (HE2.out.kept (grown_below HB3.out none) (by simp)).kept (grown_below hb none) (by simp), HB23.trans (hb.mono HB23.size)⟩)
    have g0 := HE2.out.c0
    have hg2 : w.heap.size < w2.heap.size := HE2.out.lt
    have i19 : (kn : Int) < ((20 : Nat) : Int) := by omega
    clear hb hsh
    go_wp2_with fail
    refine (HI1.out _).mono ?_
    rintro e w2' ⟨rfl, rfl⟩
    obtain ⟨⟨f0, f1, f2, f3, f4, f5, f6⟩, hE, _⟩ := HK.out _ (Below.refl _ _)
    have e0 := hE.c0
    have e1 := hE.c1
    have e2 := hE.c2
    have e3 := hE.c3
    have e4 := hE.c4
    have e5 := hE.c5
    have e6 := hE.c6
    clear hE
    go_wp2_with fail
    refine (HI2.out _).mono ?_
    rintro e w3' ⟨rfl, rfl⟩
    cases q5
    · have HRm : Hid (R = 1) := Lib.hid (by rw [HRK.out, if_pos rfl])
      go_wp2_with fail
      go_ret
      exact ⟨by rw [HRm.out]; rfl, (HK.out _ (Below.refl _ _)).2.2⟩
    · go_wp2_with fail
      refine (HC0.out _).mono ?_
      rintro e w4 ⟨rfl, hb⟩
      have HB4 := Lib.hid (show Below W3.heap.size W3 w4 from hb)
      clear hb e0 e1 e2 e3 e4 e5 e6 f0 f1 f2 f3 f4 f5 f6
      obtain ⟨⟨f0, f1, f2, f3, f4, f5, f6⟩, hE, _⟩ := HK.out _ HB4.out
      have e0 := hE.c0
      have e1 := hE.c1
      have e2 := hE.c2
      have e3 := hE.c3
      have e4 := hE.c4
      have e5 := hE.c5
      have e6 := hE.c6
      clear hE
      cases q0
      · have HRm : Hid (R = 4) := Lib.hid (by rw [HRK.out, if_neg (by simp), if_pos rfl])
        go_wp2_with fail
        go_ret
        exact ⟨by rw [HRm.out]; rfl, (HK.out _ HB4.out).2.2⟩
      · go_wp2_with fail
        refine (HC1.out _).mono ?_
        rintro e w5 ⟨rfl, hb⟩
        have HB5 := Lib.hid (HB4.out.trans (hb.mono HB4.out.size))
        clear hb e0 e1 e2 e3 e4 e5 e6 f0 f1 f2 f3 f4 f5 f6
        obtain ⟨⟨f0, f1, f2, f3, f4, f5, f6⟩, hE, _⟩ := HK.out _ HB5.out
        have e0 := hE.c0
        have e1 := hE.c1
        have e2 := hE.c2
        have e3 := hE.c3
        have e4 := hE.c4
        have e5 := hE.c5
        have e6 := hE.c6
        clear hE
        cases q1
        · have HRm : Hid (R = 4) := Lib.hid (by rw [HRK.out, if_neg (by simp), if_neg (by simp), if_pos rfl])
          go_wp2_with fail
          go_ret
          exact ⟨by rw [HRm.out]; rfl, (HK.out _ HB5.out).2.2⟩
        · have HRk : Hid (R = if manyB kn nl = false then 7 else if partsB kn ll = false then 7 else if armsB kn al = false then 7 else if E7 = 0 then E8 else E7) := Lib.hid (by rw [HRK.out, if_neg (by simp), if_neg (by simp), if_neg (by simp)])
          clear HRK
          by_cases hm1 : (nl : Int) = x2
          · have m1 : ((nl : Int) == x2) = true := beq_iff_eq.2 hm1
            have HMv : Hid (manyB kn nl = true) := Lib.hid (by rw [HMB.out, m1]; rfl)
            clear hm1
            by_cases hp1 : (ll : Int) = x3
            · have p1 : ((ll : Int) == x3) = true := beq_iff_eq.2 hp1
              have HPv : Hid (partsB kn ll = true) := Lib.hid (by rw [HPB.out, p1]; rfl)
              clear hp1
              cases x4
              · by_cases ha0 : (al : Int) ≤ 0
                · obtain rfl : al = 0 := by omega
                  have hA0 := Lib.hid ha0
                  have HAv : Hid (armsB kn 0 = true) := Lib.hid (by rw [HAB.out]; rfl)
                  clear ha0
                  have HRn : Hid (R = if E7 = 0 then E8 else E7) := Lib.hid (by rw [HRk.out, if_neg (by rw [HMv.out]; simp), if_neg (by rw [HPv.out]; simp), if_neg (by rw [HAv.out]; simp)])
                  go_wp2_with fail
                  refine (HNm.out HMv.out _ (HK.out _ HB5.out).2.2).mono ?_
                  rintro e w6 ⟨rfl, hb⟩
                  have HB6 := Lib.hid (HB5.out.trans (hb.mono HB5.out.size))
                  clear hb e0 e1 e2 e3 e4 e5 e6 f0 f1 f2 f3 f4 f5 f6
                  obtain ⟨⟨f0, f1, f2, f3, f4, f5, f6⟩, hE, _⟩ := HK.out _ HB6.out
                  have e0 := hE.c0
                  have e1 := hE.c1
                  have e2 := hE.c2
                  have e3 := hE.c3
                  have e4 := hE.c4
                  have e5 := hE.c5
                  have e6 := hE.c6
                  clear hE
                  by_cases h7 : E7 = 0
                  · have HRo : Hid (R = E8) := Lib.hid (by rw [HRn.out, if_pos h7])
                    subst h7
                    have HRp : Hid (R = 0) := Lib.hid (by rw [HRo.out]; exact HE8.out (by first | rfl | trivial) hA0.out)
                    go_wp2_with fail
                    go_ret
                    exact ⟨by rw [HRp.out]; rfl, (HK.out _ HB6.out).2.2⟩
                  · have HRo : Hid (R = E7) := Lib.hid (by rw [HRn.out, if_neg h7])
                    have hb7 : (E7 == 0) = false := beq_eq_false_iff_ne.2 h7
                    clear h7
                    go_wp2_with fail
                    go_ret
                    exact ⟨by rw [HRo.out]; rfl, (HK.out _ HB6.out).2.2⟩
                · have a1 : (0 : Int) < (al : Int) := by omega
                  have HAv : Hid (armsB kn al = false) := Lib.hid (by rw [HAB.out]; simp <;> omega)
                  clear ha0
                  have HRm : Hid (R = 7) := Lib.hid (by rw [HRk.out, if_neg (by rw [HMv.out]; simp), if_neg (by rw [HPv.out]; simp), if_pos HAv.out])
                  go_wp2_with fail
                  go_ret
                  exact ⟨by rw [HRm.out]; rfl, (HK.out _ HB5.out).2.2⟩
              · by_cases ha9 : (al : Int) ≤ 9
                · have a2 : ¬ (9 : Int) < (al : Int) := by omega
                  have HAv : Hid (armsB kn al = true) := Lib.hid (by rw [HAB.out]; simp <;> omega)
                  have HRn : Hid (R = if E7 = 0 then E8 else E7) := Lib.hid (by rw [HRk.out, if_neg (by rw [HMv.out]; simp), if_neg (by rw [HPv.out]; simp), if_neg (by rw [HAv.out]; simp)])
                  go_wp2_with fail
                  refine (HNm.out HMv.out _ (HK.out _ HB5.out).2.2).mono ?_
                  rintro e w6 ⟨rfl, hb⟩
                  have HB6 := Lib.hid (HB5.out.trans (hb.mono HB5.out.size))
                  clear hb e0 e1 e2 e3 e4 e5 e6 f0 f1 f2 f3 f4 f5 f6
                  obtain ⟨⟨f0, f1, f2, f3, f4, f5, f6⟩, hE, _⟩ := HK.out _ HB6.out
                  have e0 := hE.c0
                  have e1 := hE.c1
                  have e2 := hE.c2
                  have e3 := hE.c3
                  have e4 := hE.c4
                  have e5 := hE.c5
                  have e6 := hE.c6
                  clear hE
                  by_cases h7 : E7 = 0
                  · have HRo : Hid (R = E8) := Lib.hid (by rw [HRn.out, if_pos h7])
                    subst h7
                    go_wp2_with fail
                    refine (HAr.out (by first | rfl | trivial) _ (HK.out _ HB6.out).2.2).mono ?_
                    rintro e w7 ⟨rfl, hb⟩
                    have HB7 := Lib.hid (HB6.out.trans (hb.mono HB6.out.size))
                    clear hb e0 e1 e2 e3 e4 e5 e6 f0 f1 f2 f3 f4 f5 f6
                    go_wp2_with fail
                    go_ret
                    exact ⟨by rw [HRo.out]; rfl, (HK.out _ HB7.out).2.2⟩
                  · have HRo : Hid (R = E7) := Lib.hid (by rw [HRn.out, if_neg h7])
                    have hb7 : (E7 == 0) = false := beq_eq_false_iff_ne.2 h7
                    clear h7
                    go_wp2_with fail
                    go_ret
                    exact ⟨by rw [HRo.out]; rfl, (HK.out _ HB6.out).2.2⟩
                · have a2 : (9 : Int) < (al : Int) := by omega
                  have HAv : Hid (armsB kn al = false) := Lib.hid (by rw [HAB.out]; simp <;> omega)
                  have HRm : Hid (R = 7) := Lib.hid (by rw [HRk.out, if_neg (by rw [HMv.out]; simp), if_neg (by rw [HPv.out]; simp), if_pos HAv.out])
                  go_wp2_with fail
                  go_ret
                  exact ⟨by rw [HRm.out]; rfl, (HK.out _ HB5.out).2.2⟩
            · have p1 : ((ll : Int) == x3) = false := beq_eq_false_iff_ne.2 hp1
              clear hp1
              by_cases hk10 : (kn : Int) = 10
              · have p2 : ((kn : Int) == 10) = true := beq_iff_eq.2 hk10
                clear hk10
                by_cases hp4 : (ll : Int) ≤ 4
                · have HPv : Hid (partsB kn ll = true) := Lib.hid (by rw [HPB.out, p1, p2]; simp <;> omega)
                  cases x4
                  · by_cases ha0 : (al : Int) ≤ 0
                    · obtain rfl : al = 0 := by omega
                      have hA0 := Lib.hid ha0
                      have HAv : Hid (armsB kn 0 = true) := Lib.hid (by rw [HAB.out]; rfl)
                      clear ha0
                      have HRn : Hid (R = if E7 = 0 then E8 else E7) := Lib.hid (by rw [HRk.out, if_neg (by rw [HMv.out]; simp), if_neg (by rw [HPv.out]; simp), if_neg (by rw [HAv.out]; simp)])
                      go_wp2_with fail
                      refine (HNm.out HMv.out _ (HK.out _ HB5.out).2.2).mono ?_
                      rintro e w6 ⟨rfl, hb⟩
                      have HB6 := Lib.hid (HB5.out.trans (hb.mono HB5.out.size))
                      clear hb e0 e1 e2 e3 e4 e5 e6 f0 f1 f2 f3 f4 f5 f6
                      obtain ⟨⟨f0, f1, f2, f3, f4, f5, f6⟩, hE, _⟩ := HK.out _ HB6.out
                      have e0 := hE.c0
                      have e1 := hE.c1
                      have e2 := hE.c2
                      have e3 := hE.c3
                      have e4 := hE.c4
                      have e5 := hE.c5
                      have e6 := hE.c6
                      clear hE
                      by_cases h7 : E7 = 0
                      · have HRo : Hid (R = E8) := Lib.hid (by rw [HRn.out, if_pos h7])
                        subst h7
                        have HRp : Hid (R = 0) := Lib.hid (by rw [HRo.out]; exact HE8.out (by first | rfl | trivial) hA0.out)
                        go_wp2_with fail
                        go_ret
                        exact ⟨by rw [HRp.out]; rfl, (HK.out _ HB6.out).2.2⟩
                      · have HRo : Hid (R = E7) := Lib.hid (by rw [HRn.out, if_neg h7])
                        have hb7 : (E7 == 0) = false := beq_eq_false_iff_ne.2 h7
                        clear h7
                        go_wp2_with fail
                        go_ret
                        exact ⟨by rw [HRo.out]; rfl, (HK.out _ HB6.out).2.2⟩
                    · have a1 : (0 : Int) < (al : Int) := by omega
                      have HAv : Hid (armsB kn al = false) := Lib.hid (by rw [HAB.out]; simp <;> omega)
                      clear ha0
                      have HRm : Hid (R = 7) := Lib.hid (by rw [HRk.out, if_neg (by rw [HMv.out]; simp), if_neg (by rw [HPv.out]; simp), if_pos HAv.out])
                      go_wp2_with fail
                      go_ret
                      exact ⟨by rw [HRm.out]; rfl, (HK.out _ HB5.out).2.2⟩
                  · by_cases ha9 : (al : Int) ≤ 9
                    · have a2 : ¬ (9 : Int) < (al : Int) := by omega
                      have HAv : Hid (armsB kn al = true) := Lib.hid (by rw [HAB.out]; simp <;> omega)
                      have HRn : Hid (R = if E7 = 0 then E8 else E7) := Lib.hid (by rw [HRk.out, if_neg (by rw [HMv.out]; simp), if_neg (by rw [HPv.out]; simp), if_neg (by rw [HAv.out]; simp)])
                      go_wp2_with fail
                      refine (HNm.out HMv.out _ (HK.out _ HB5.out).2.2).mono ?_
                      rintro e w6 ⟨rfl, hb⟩
                      have HB6 := Lib.hid (HB5.out.trans (hb.mono HB5.out.size))
                      clear hb e0 e1 e2 e3 e4 e5 e6 f0 f1 f2 f3 f4 f5 f6
                      obtain ⟨⟨f0, f1, f2, f3, f4, f5, f6⟩, hE, _⟩ := HK.out _ HB6.out
                      have e0 := hE.c0
                      have e1 := hE.c1
                      have e2 := hE.c2
                      have e3 := hE.c3
                      have e4 := hE.c4
                      have e5 := hE.c5
                      have e6 := hE.c6
                      clear hE
                      by_cases h7 : E7 = 0
                      · have HRo : Hid (R = E8) := Lib.hid (by rw [HRn.out, if_pos h7])
                        subst h7
                        go_wp2_with fail
                        refine (HAr.out (by first | rfl | trivial) _ (HK.out _ HB6.out).2.2).mono ?_
                        rintro e w7 ⟨rfl, hb⟩
                        have HB7 := Lib.hid (HB6.out.trans (hb.mono HB6.out.size))
                        clear hb e0 e1 e2 e3 e4 e5 e6 f0 f1 f2 f3 f4 f5 f6
                        go_wp2_with fail
                        go_ret
                        exact ⟨by rw [HRo.out]; rfl, (HK.out _ HB7.out).2.2⟩
                      · have HRo : Hid (R = E7) := Lib.hid (by rw [HRn.out, if_neg h7])
                        have hb7 : (E7 == 0) = false := beq_eq_false_iff_ne.2 h7
                        clear h7
                        go_wp2_with fail
                        go_ret
                        exact ⟨by rw [HRo.out]; rfl, (HK.out _ HB6.out).2.2⟩
                    · have a2 : (9 : Int) < (al : Int) := by omega
                      have HAv : Hid (armsB kn al = false) := Lib.hid (by rw [HAB.out]; simp <;> omega)
                      have HRm : Hid (R = 7) := Lib.hid (by rw [HRk.out, if_neg (by rw [HMv.out]; simp), if_neg (by rw [HPv.out]; simp), if_pos HAv.out])
                      go_wp2_with fail
                      go_ret
                      exact ⟨by rw [HRm.out]; rfl, (HK.out _ HB5.out).2.2⟩
                · have HPv : Hid (partsB kn ll = false) := Lib.hid (by rw [HPB.out, p1, p2]; simp <;> omega)
                  have HRm : Hid (R = 7) := Lib.hid (by rw [HRk.out]; simp [HMv.out, HPv.out])
                  go_wp2_with fail
                  go_ret
                  exact ⟨by rw [HRm.out]; rfl, (HK.out _ HB5.out).2.2⟩
              · have p2 : ((kn : Int) == 10) = false := beq_eq_false_iff_ne.2 hk10
                clear hk10
                have HPv : Hid (partsB kn ll = false) := Lib.hid (by rw [HPB.out, p1, p2]; rfl)
                have HRm : Hid (R = 7) := Lib.hid (by rw [HRk.out]; simp [HMv.out, HPv.out])
                go_wp2_with fail
                go_ret
                exact ⟨by rw [HRm.out]; rfl, (HK.out _ HB5.out).2.2⟩
          · have m1 : ((nl : Int) == x2) = false := beq_eq_false_iff_ne.2 hm1
            clear hm1
            by_cases hk17 : (kn : Int) = 17
            · have m2 : ((kn : Int) == 17) = true := beq_iff_eq.2 hk17
              have HK17 := Lib.hid hk17
              clear hk17
              by_cases hl1 : (1 : Int) ≤ (nl : Int)
              · by_cases hl2 : (nl : Int) ≤ 13
                · have HMv : Hid (manyB kn nl = true) := Lib.hid (by rw [HMB.out, m1, m2]; simp <;> omega)
                  by_cases hp1 : (ll : Int) = x3
                  · have p1 : ((ll : Int) == x3) = true := beq_iff_eq.2 hp1
                    have HPv : Hid (partsB kn ll = true) := Lib.hid (by rw [HPB.out, p1]; rfl)
                    clear hp1
                    cases x4
                    · by_cases ha0 : (al : Int) ≤ 0
                      · obtain rfl : al = 0 := by omega
                        have hA0 := Lib.hid ha0
                        have HAv : Hid (armsB kn 0 = true) := Lib.hid (by rw [HAB.out]; rfl)
                        clear ha0
                        have HRn : Hid (R = if E7 = 0 then E8 else E7) := Lib.hid (by rw [HRk.out, if_neg (by rw [HMv.out]; simp), if_neg (by rw [HPv.out]; simp), if_neg (by rw [HAv.out]; simp)])
                        go_wp2_with fail
                        refine (HNm.out HMv.out _ (HK.out _ HB5.out).2.2).mono ?_
                        rintro e w6 ⟨rfl, hb⟩
                        have HB6 := Lib.hid (HB5.out.trans (hb.mono HB5.out.size))
                        clear hb e0 e1 e2 e3 e4 e5 e6 f0 f1 f2 f3 f4 f5 f6
                        obtain ⟨⟨f0, f1, f2, f3, f4, f5, f6⟩, hE, _⟩ := HK.out _ HB6.out
                        have e0 := hE.c0
                        have e1 := hE.c1
                        have e2 := hE.c2
                        have e3 := hE.c3
                        have e4 := hE.c4
                        have e5 := hE.c5
                        have e6 := hE.c6
                        clear hE
                        by_cases h7 : E7 = 0
                        · have HRo : Hid (R = E8) := Lib.hid (by rw [HRn.out, if_pos h7])
                          subst h7
                          have HRp : Hid (R = 0) := Lib.hid (by rw [HRo.out]; exact HE8.out (by first | rfl | trivial) hA0.out)
                          go_wp2_with fail
                          go_ret
                          exact ⟨by rw [HRp.out]; rfl, (HK.out _ HB6.out).2.2⟩
                        · have HRo : Hid (R = E7) := Lib.hid (by rw [HRn.out, if_neg h7])
                          have hb7 : (E7 == 0) = false := beq_eq_false_iff_ne.2 h7
                          clear h7
                          go_wp2_with fail
                          go_ret
                          exact ⟨by rw [HRo.out]; rfl, (HK.out _ HB6.out).2.2⟩
                      · have a1 : (0 : Int) < (al : Int) := by omega
                        have HAv : Hid (armsB kn al = false) := Lib.hid (by rw [HAB.out]; simp <;> omega)
                        clear ha0
                        have HRm : Hid (R = 7) := Lib.hid (by rw [HRk.out, if_neg (by rw [HMv.out]; simp), if_neg (by rw [HPv.out]; simp), if_pos HAv.out])
                        go_wp2_with fail
                        go_ret
                        exact ⟨by rw [HRm.out]; rfl, (HK.out _ HB5.out).2.2⟩
                    · by_cases ha9 : (al : Int) ≤ 9
                      · have a2 : ¬ (9 : Int) < (al : Int) := by omega
                        have HAv : Hid (armsB kn al = true) := Lib.hid (by rw [HAB.out]; simp <;> omega)
                        have HRn : Hid (R = if E7 = 0 then E8 else E7) := Lib.hid (by rw [HRk.out, if_neg (by rw [HMv.out]; simp), if_neg (by rw [HPv.out]; simp), if_neg (by rw [HAv.out]; simp)])
                        go_wp2_with fail
                        refine (HNm.out HMv.out _ (HK.out _ HB5.out).2.2).mono ?_
                        rintro e w6 ⟨rfl, hb⟩
                        have HB6 := Lib.hid (HB5.out.trans (hb.mono HB5.out.size))
                        clear hb e0 e1 e2 e3 e4 e5 e6 f0 f1 f2 f3 f4 f5 f6
                        obtain ⟨⟨f0, f1, f2, f3, f4, f5, f6⟩, hE, _⟩ := HK.out _ HB6.out
                        have e0 := hE.c0
                        have e1 := hE.c1
                        have e2 := hE.c2
                        have e3 := hE.c3
                        have e4 := hE.c4
                        have e5 := hE.c5
                        have e6 := hE.c6
                        clear hE
                        by_cases h7 : E7 = 0
                        · have HRo : Hid (R = E8) := Lib.hid (by rw [HRn.out, if_pos h7])
                          subst h7
                          go_wp2_with fail
                          refine (HAr.out (by first | rfl | trivial) _ (HK.out _ HB6.out).2.2).mono ?_
                          rintro e w7 ⟨rfl, hb⟩
                          have HB7 := Lib.hid (HB6.out.trans (hb.mono HB6.out.size))
                          clear hb e0 e1 e2 e3 e4 e5 e6 f0 f1 f2 f3 f4 f5 f6
                          go_wp2_with fail
                          go_ret
                          exact ⟨by rw [HRo.out]; rfl, (HK.out _ HB7.out).2.2⟩
                        · have HRo : Hid (R = E7) := Lib.hid (by rw [HRn.out, if_neg h7])
                          have hb7 : (E7 == 0) = false := beq_eq_false_iff_ne.2 h7
                          clear h7
                          go_wp2_with fail
                          go_ret
                          exact ⟨by rw [HRo.out]; rfl, (HK.out _ HB6.out).2.2⟩
                      · have a2 : (9 : Int) < (al : Int) := by omega
                        have HAv : Hid (armsB kn al = false) := Lib.hid (by rw [HAB.out]; simp <;> omega)
                        have HRm : Hid (R = 7) := Lib.hid (by rw [HRk.out, if_neg (by rw [HMv.out]; simp), if_neg (by rw [HPv.out]; simp), if_pos HAv.out])
                        go_wp2_with fail
                        go_ret
                        exact ⟨by rw [HRm.out]; rfl, (HK.out _ HB5.out).2.2⟩
                  · have p1 : ((ll : Int) == x3) = false := beq_eq_false_iff_ne.2 hp1
                    clear hp1
                    have p2 : ((kn : Int) == 10) = false := beq_eq_false_iff_ne.2 (by have := HK17.out; omega)
                    have HPv : Hid (partsB kn ll = false) := Lib.hid (by rw [HPB.out, p1, p2]; rfl)
                    have HRm : Hid (R = 7) := Lib.hid (by rw [HRk.out]; simp [HMv.out, HPv.out])
                    go_wp2_with fail
                    go_ret
                    exact ⟨by rw [HRm.out]; rfl, (HK.out _ HB5.out).2.2⟩
                · have HMv : Hid (manyB kn nl = false) := Lib.hid (by rw [HMB.out, m1, m2]; simp <;> omega)
                  by_cases hp1 : (ll : Int) = x3
                  · have p1 : ((ll : Int) == x3) = true := beq_iff_eq.2 hp1
                    have HPv : Hid (partsB kn ll = true) := Lib.hid (by rw [HPB.out, p1]; rfl)
                    clear hp1
                    have HRm : Hid (R = 7) := Lib.hid (by rw [HRk.out]; simp [HMv.out])
                    go_wp2_with fail
                    go_ret
                    exact ⟨by rw [HRm.out]; rfl, (HK.out _ HB5.out).2.2⟩
                  · have p1 : ((ll : Int) == x3) = false := beq_eq_false_iff_ne.2 hp1
                    clear hp1
                    have p2 : ((kn : Int) == 10) = false := beq_eq_false_iff_ne.2 (by have := HK17.out; omega)
                    have HPv : Hid (partsB kn ll = false) := Lib.hid (by rw [HPB.out, p1, p2]; rfl)
                    have HRm : Hid (R = 7) := Lib.hid (by rw [HRk.out]; simp [HMv.out])
                    go_wp2_with fail
                    go_ret
                    exact ⟨by rw [HRm.out]; rfl, (HK.out _ HB5.out).2.2⟩
              · have HMv : Hid (manyB kn nl = false) := Lib.hid (by rw [HMB.out, m1, m2]; simp <;> omega)
                by_cases hp1 : (ll : Int) = x3
                · have p1 : ((ll : Int) == x3) = true := beq_iff_eq.2 hp1
                  have HPv : Hid (partsB kn ll = true) := Lib.hid (by rw [HPB.out, p1]; rfl)
                  clear hp1
                  have HRm : Hid (R = 7) := Lib.hid (by rw [HRk.out]; simp [HMv.out])
                  go_wp2_with fail
                  go_ret
                  exact ⟨by rw [HRm.out]; rfl, (HK.out _ HB5.out).2.2⟩
                · have p1 : ((ll : Int) == x3) = false := beq_eq_false_iff_ne.2 hp1
                  clear hp1
                  have p2 : ((kn : Int) == 10) = false := beq_eq_false_iff_ne.2 (by have := HK17.out; omega)
                  have HPv : Hid (partsB kn ll = false) := Lib.hid (by rw [HPB.out, p1, p2]; rfl)
                  have HRm : Hid (R = 7) := Lib.hid (by rw [HRk.out]; simp [HMv.out])
                  go_wp2_with fail
                  go_ret
                  exact ⟨by rw [HRm.out]; rfl, (HK.out _ HB5.out).2.2⟩
            · have m2 : ((kn : Int) == 17) = false := beq_eq_false_iff_ne.2 hk17
              clear hk17
              have HMv : Hid (manyB kn nl = false) := Lib.hid (by rw [HMB.out, m1, m2]; rfl)
              by_cases hp1 : (ll : Int) = x3
              · have p1 : ((ll : Int) == x3) = true := beq_iff_eq.2 hp1
                have HPv : Hid (partsB kn ll = true) := Lib.hid (by rw [HPB.out, p1]; rfl)
                clear hp1
                have HRm : Hid (R = 7) := Lib.hid (by rw [HRk.out]; simp [HMv.out])
                go_wp2_with fail
                go_ret
                exact ⟨by rw [HRm.out]; rfl, (HK.out _ HB5.out).2.2⟩
              · have p1 : ((ll : Int) == x3) = false := beq_eq_false_iff_ne.2 hp1
                clear hp1
                by_cases hk10 : (kn : Int) = 10
                · have p2 : ((kn : Int) == 10) = true := beq_iff_eq.2 hk10
                  clear hk10
                  by_cases hp4 : (ll : Int) ≤ 4
                  · have HPv : Hid (partsB kn ll = true) := Lib.hid (by rw [HPB.out, p1, p2]; simp <;> omega)
                    have HRm : Hid (R = 7) := Lib.hid (by rw [HRk.out]; simp [HMv.out])
                    go_wp2_with fail
                    go_ret
                    exact ⟨by rw [HRm.out]; rfl, (HK.out _ HB5.out).2.2⟩
                  · have HPv : Hid (partsB kn ll = false) := Lib.hid (by rw [HPB.out, p1, p2]; simp <;> omega)
                    have HRm : Hid (R = 7) := Lib.hid (by rw [HRk.out]; simp [HMv.out])
                    go_wp2_with fail
                    go_ret
                    exact ⟨by rw [HRm.out]; rfl, (HK.out _ HB5.out).2.2⟩
                · have p2 : ((kn : Int) == 10) = false := beq_eq_false_iff_ne.2 hk10
                  clear hk10
                  have HPv : Hid (partsB kn ll = false) := Lib.hid (by rw [HPB.out, p1, p2]; rfl)
                  have HRm : Hid (R = 7) := Lib.hid (by rw [HRk.out]; simp [HMv.out])
                  go_wp2_with fail
                  go_ret
                  exact ⟨by rw [HRm.out]; rfl, (HK.out _ HB5.out).2.2⟩
  · have HRm : Hid (R = 1) := Lib.hid (by rw [HR.out]; exact if_neg hk)
    have HI1 : Hid (∀ wx, Calls Tryz.prog 105 #[.int .i64 k, .int .i64 0, .int .i64 19] wx fun e w' => e = .returned (.bool false) ∧ wx = w') := Lib.hid (fun wx => (In_any _ _ _ wx).mono fun e w' h => ⟨by rw [h.1]; apply ret_bool; simp; omega, h.2⟩)
    obtain ⟨nl, hnl⟩ : ∃ q, q = ns.length := ⟨_, rfl⟩
    obtain ⟨ll, hll⟩ : ∃ q, q = l.length := ⟨_, rfl⟩
    obtain ⟨al, hal⟩ : ∃ q, q = bs.length := ⟨_, rfl⟩
    rw [← hnl, ← hll, ← hal]
    clear hnl hll hal hk
    obtain ⟨W1, hW1⟩ : ∃ W1, w.alloc (.cells #[.int .i64 k, .int .i64 n, .string (strB xs), .string (strB xt), .slice A0 nl c0, .slice A1 ll c1, .slice A2 al c2] 27) = W1 := ⟨_, rfl⟩
    have HB1 : Hid (Below w.heap.size w W1) := Lib.hid (by rw [← hW1]; exact (Below.refl _ _).alloc (Nat.le_refl _) _)
    have HE1 : Hid (EB W1 w.heap.size (.int .i64 k) (.int .i64 n) (.string (strB xs)) (.string (strB xt)) (.slice A0 nl c0) (.slice A1 ll c1) (.slice A2 al c2)) := Lib.hid (by rw [← hW1]; exact EB.new w _ _ _ _ _ _ _)
    go_enter Tryz.func93, Tryz.ntmps93
    go_wp2_with fail
    clear hW1
    refine (shapes_any W1).mono ?_
    rintro e w2 ⟨Ash, rfl, _, hb⟩
    have HE2 := Lib.hid (HE1.out.kept (grown_below hb none) (by simp))
    have HB2 := Lib.hid (HB1.out.trans (hb.mono HB1.out.size))
    have g0 := HE2.out.c0
    clear hb
    go_wp2_with fail
    refine (HI1.out _).mono ?_
    rintro e w2' ⟨rfl, rfl⟩
    go_wp2_with fail
    go_ret
    exact ⟨by rw [HRm.out]; rfl, HB2.out⟩
end Go.Proofs.YtndgoefhhjcllaaGreatDoor
/- The first error of a tree, part by part. -/
namespace Go.Proofs.YtndgoefhhjcllaaGreatDoor
open Go.RowKit

theorem firstF_append (chk : Ex → Int) : ∀ (a b : List (Int × Ex)), firstF chk (a ++ b) = if firstF chk a = 0 then firstF chk b else firstF chk a
  | [], b => by simp [firstF]
  | (d, x) :: r, b => by
    rw [List.cons_append, firstF, firstF, firstF_append chk r b]
    by_cases h : chk x = 0
    · rw [if_pos h, if_pos h]
    · rw [if_neg h, if_neg h, if_neg h]
mutual
theorem firstF_lvl (chk : Ex → Int) : ∀ (e : Ex) (d d' : Int), firstF chk (nodesE d e) = firstF chk (nodesE d' e)
  | .mk k n s t ns l ops bs, d, d' => by
    rw [nodesE, nodesE, firstF, firstF, firstF_append, firstF_append, firstF_lvls chk l (d + 1) (d' + 1), firstF_lvls chk bs (d + 1) (d' + 1)]
theorem firstF_lvls (chk : Ex → Int) : ∀ (l : List Ex) (d d' : Int), firstF chk (nodesL d l) = firstF chk (nodesL d' l)
  | [], d, d' => by rw [nodesL, nodesL]
  | x :: r, d, d' => by
    rw [nodesL, nodesL, firstF_append, firstF_append, firstF_lvl chk x d d', firstF_lvls chk r d d']
end
/-- a tree's first error -/
def ckP (e : Ex) : Int := firstF chkN (nodesE 1 e)
/-- the first error of trees in a row -/
def ckL : List Ex → Int
  | [] => 0
  | x :: r => if ckP x = 0 then ckL r else ckP x
theorem ckL_nodes : ∀ (l : List Ex) (d : Int), firstF chkN (nodesL d l) = ckL l
  | [], d => by rw [nodesL, ckL, firstF]
  | x :: r, d => by
    rw [nodesL, firstF_append, ckL_nodes r d, ckL, firstF_lvl chkN x d 1]
    rfl
theorem ckL_append : ∀ (a b : List Ex), ckL (a ++ b) = if ckL a = 0 then ckL b else ckL a
  | [], b => by simp [ckL]
  | x :: r, b => by
    rw [List.cons_append, ckL, ckL, ckL_append r b]
    by_cases h : ckP x = 0
    · rw [if_pos h, if_pos h]
    · rw [if_neg h, if_neg h, if_neg h]
/-- what the reference's checked does: the node, then its parts -/
theorem ckP_step (e : Ex) : ckP e = if chkN e = 0 then ckL e.parts else chkN e := by
  cases e with
  | mk k n s t ns l ops bs =>
    unfold ckP
    rw [nodesE, firstF, firstF_append, ckL_nodes l, ckL_nodes bs]
    show _ = if chkN _ = 0 then ckL (l ++ bs) else chkN _
    rw [ckL_append]
theorem ckL_snoc (l : List Ex) (x : Ex) : ckL (l ++ [x]) = if ckL l = 0 then ckP x else ckL l := by
  rw [ckL_append, ckL, ckL]
  by_cases h : ckP x = 0
  · rw [if_pos h, h]
  · rw [if_neg h]
end Go.Proofs.YtndgoefhhjcllaaGreatDoor
/- The reference's check of a whole tree. -/
namespace Go.Proofs.YtndgoefhhjcllaaGreatDoor
open Go.RowKit

/-- a tree's lists are short -/
def NmOk (e : Ex) : Prop := ∀ q ∈ nodesE 1 e, q.2.ns.length ≤ 1000 ∧ (∀ o ∈ q.2.ops, o.2.length ≤ 1000) ∧ q.2.l.length ≤ 50 ∧ q.2.bs.length ≤ 50
theorem NmOk.part {e x : Ex} (h : NmOk e) (hx : x ∈ e.parts) : NmOk x := by
  cases e with
  | mk k n s t ns l ops bs =>
    intro q hq
    have h2 : ∀ q ∈ nodesE (1 + 1) x, q.2.ns.length ≤ 1000 ∧ (∀ o ∈ q.2.ops, o.2.length ≤ 1000) ∧ q.2.l.length ≤ 50 ∧ q.2.bs.length ≤ 50 := fun q hq => h q (by
      simp only [nodesE, List.mem_cons, List.mem_append]
      rcases List.mem_append.1 (show x ∈ l ++ bs from hx) with hx | hx
      · exact .inr (.inl (mem_nodesL hx hq))
      · exact .inr (.inr (mem_nodesL hx hq)))
    exact nodesE_snd (fun e => e.ns.length ≤ 1000 ∧ (∀ o ∈ e.ops, o.2.length ≤ 1000) ∧ e.l.length ≤ 50 ∧ e.bs.length ≤ 50) x (1 + 1) 1 h2 q hq
theorem NmOk.self {e : Ex} (h : NmOk e) : e.ns.length ≤ 1000 ∧ (∀ o ∈ e.ops, o.2.length ≤ 1000) ∧ e.l.length ≤ 50 ∧ e.bs.length ≤ 50 := h (1, e) (by cases e; simp [nodesE])
def CkSays (e : Ex) : Prop := NmOk e → ∀ (k n : Int) (s t : ByteArray) (A0 : Option Addr) (n0 c0 : Nat) (A1 : Option Addr) (n1 c1 : Nat) (A2 : Option Addr) (n2 c2 : Nat) (w : World), RepE (fun _ => True) w e [.int .i64 k, .int .i64 n, .string s, .string t, .slice A0 n0 c0, .slice A1 n1 c1, .slice A2 n2 c2] →
  Calls Tryz.prog 37 #[.agg #[.int .i64 k, .int .i64 n, .string s, .string t, .slice A0 n0 c0, .slice A1 n1 c1, .slice A2 n2 c2]] w fun r w' => r = .returned (.int .i64 (ckP e)) ∧ Below w.heap.size w w'
set_option maxRecDepth 100000 in
set_option maxHeartbeats 4000000 in
theorem checked_any : ∀ e, CkSays e := by
  refine Ex.ind fun e ih => ?_
  intro hok k n s t A0 n0 c0 A1 n1 c1 A2 n2 c2 w hre
  obtain ⟨W1, hW1⟩ : ∃ W1, w.alloc (.cells #[.int .i64 k, .int .i64 n, .string s, .string t, .slice A0 n0 c0, .slice A1 n1 c1, .slice A2 n2 c2] 27) = W1 := ⟨_, rfl⟩
  have HB1 : Hid (Below w.heap.size w W1) := Lib.hid (by rw [← hW1]; exact (Below.refl _ _).alloc (Nat.le_refl _) _)
  have HE1 : Hid (EB W1 w.heap.size (.int .i64 k) (.int .i64 n) (.string s) (.string t) (.slice A0 n0 c0) (.slice A1 n1 c1) (.slice A2 n2 c2)) := Lib.hid (by rw [← hW1]; exact EB.new w _ _ _ _ _ _ _)
  obtain ⟨z1, z2, z3, z4⟩ := hok.self
  obtain ⟨R, hR⟩ : ∃ R, R = ckP e := ⟨_, rfl⟩
  obtain ⟨E1, hE1⟩ : ∃ E1, E1 = chkN e := ⟨_, rfl⟩
  obtain ⟨L, hL⟩ : ∃ L, L = e.parts := ⟨_, rfl⟩
  have HR : Hid (R = if E1 = 0 then ckL L else E1) := Lib.hid (by rw [hR, ckP_step, hE1, hL])
  have HNd : Hid (∀ w', Below w.heap.size w w' → Calls Tryz.prog 93 #[.agg #[.int .i64 k, .int .i64 n, .string s, .string t, .slice A0 n0 c0, .slice A1 n1 c1, .slice A2 n2 c2]] w' fun r w2 => r = .returned (.int .i64 E1) ∧ Below w'.heap.size w' w2) := Lib.hid (fun w' hb => by
    rw [hE1]; exact node_any e k n s t A0 n0 c0 A1 n1 c1 A2 n2 c2 w' (hre.keep (Same.of_below hb)) z1 z2)
  have HPt := Lib.hid (fun w' (hb : Below w.heap.size w w') => Parts_any _ e k n s t A0 n0 c0 A1 n1 c1 A2 n2 c2 w' (hre.keep (Same.of_below hb)) ⟨by omega, by omega⟩)
  have HIH : Hid (∀ x ∈ L, CkSays x ∧ NmOk x) := Lib.hid (fun x hx => ⟨ih x (by rw [← hL]; exact hx), hok.part (by rw [← hL]; exact hx)⟩)
  have HL := Lib.hid hL
  obtain ⟨np, hnp⟩ : ∃ q, q = L.length := ⟨_, rfl⟩
  have hpl : np ≤ 1000 := by rw [hnp, hL]; unfold Ex.parts; rw [List.length_append]; omega
  have HNP := Lib.hid hnp
  rw [← hR]
  have e0 := HE1.out.c0
  have e1 := HE1.out.c1
  have e2 := HE1.out.c2
  have e3 := HE1.out.c3
  have e4 := HE1.out.c4
  have e5 := HE1.out.c5
  have e6 := HE1.out.c6
  clear hR hE1 hL hnp hre hok ih z1 z2 z3 z4
  go_enter Tryz.func37, Tryz.ntmps37
  go_wp2_with fail
  clear hW1
  refine (HNd.out W1 HB1.out).mono ?_
  rintro r w2 ⟨rfl, hb⟩
  have HB2 := Lib.hid (HB1.out.trans (hb.mono HB1.out.size))
  have HE2 := Lib.hid (HE1.out.kept (grown_below hb none) (by simp))
  clear hb e0 e1 e2 e3 e4 e5 e6
  have e0 := HE2.out.c0
  have e1 := HE2.out.c1
  have e2 := HE2.out.c2
  have e3 := HE2.out.c3
  have e4 := HE2.out.c4
  have e5 := HE2.out.c5
  have e6 := HE2.out.c6
  by_cases h1 : E1 = 0
  · have HR1 : Hid (R = ckL L) := Lib.hid (by rw [HR.out, if_pos h1])
    subst h1
    clear HR HNd
    go_wp2_with fail
    refine (HPt.out w2 HB2.out).mono ?_
    rintro r w5 ⟨A, c, rfl, hpa, hb⟩
    have HB5 := Lib.hid (HB2.out.trans (hb.mono HB2.out.size))
    have HPA := Lib.hid hpa
    rw [← HL.out] at HPA ⊢
    rw [← HNP.out]
    clear hb hpa e0 e1 e2 e3 e4 e5 e6 HPt
    go_wp2_with fail
    go_loopw [5] (fun iv wr => ∃ kk : Nat, kk ≤ np ∧ iv = .int .i64 (kk : Int) ∧ Hid (Below w5.heap.size w5 wr) ∧ Hid (ckL (L.take kk) = 0)) (fun iv _ => np - (intOf iv).toNat)
    case atStart => exact ⟨0, Nat.zero_le _, rfl, Lib.hid (Below.refl _ _), Lib.hid rfl⟩
    case round =>
      obtain ⟨kk, hkk, rfl, hB, hZ⟩ := hrel
      have HBr := Lib.hid (HB5.out.trans (hB.out.mono HB5.out.size))
      have j0 : (0 : Int) ≤ (kk : Int) := by omega
      by_cases hkl : kk < np
      · have hkl' : kk < L.length := by rw [← HNP.out]; exact hkl
        have i1 : (kk : Int) < (np : Int) := by omega
        obtain ⟨x, hx⟩ : ∃ x, x = L[kk] := ⟨_, rfl⟩
        have HXl : Hid (L[kk]? = some x) := Lib.hid (by rw [hx]; exact List.getElem?_eq_getElem hkl')
        obtain ⟨hck, hnm⟩ := HIH.out x (by rw [hx]; exact List.getElem_mem hkl')
        have HTk : Hid (ckL (L.take (kk + 1)) = ckP x) := Lib.hid (by rw [take_succ_of hkl', ckL_snoc, ← hx, if_pos hZ.out])
        have HTd : Hid (ckL L = if ckP x = 0 then ckL (L.drop (kk + 1)) else ckP x) := Lib.hid (by
          have h1 : ckL (L.take kk ++ L.drop kk) = if ckP x = 0 then ckL (L.drop (kk + 1)) else ckP x := by rw [ckL_append, if_pos hZ.out, List.drop_eq_getElem_cons hkl', ckL, ← hx]
          rw [List.take_append_drop] at h1
          exact h1)
        obtain ⟨b, off, rfl⟩ := HPA.out.addr (by rw [← HNP.out]; omega)
        obtain ⟨⟨hb1, hb2⟩, k0, m0, s0, t0, B0, q0, r0, B1, q1, r1, B2, q2, r2, hc⟩ := HPA.out.at HXl.out
        obtain ⟨E2, hE2⟩ : ∃ E2, E2 = ckP x := ⟨_, rfl⟩
        have HCx : Hid (∀ w', Below w5.heap.size w5 w' → Calls Tryz.prog 37 #[.agg #[.int .i64 k0, .int .i64 m0, .string s0, .string t0, .slice B0 q0 r0, .slice B1 q1 r1, .slice B2 q2 r2]] w' fun r w2 => r = .returned (.int .i64 E2) ∧ Below w'.heap.size w' w2) := Lib.hid (fun w' hb => by
          rw [hE2]; exact hck hnm k0 m0 s0 t0 B0 q0 r0 B1 q1 r1 B2 q2 r2 w' ((hc.rep.keep (Same.of_below hb)).weaken (fun _ _ => trivial)))
        rw [← hE2] at HTk HTd
        have kp : ∀ o, wr.cell? ⟨b, o, none⟩ = w5.cell? ⟨b, o, none⟩ := fun o => Below.cell (p := ⟨b, o, none⟩) hB.out hb1
        have d0 := (kp _).trans hc.d0
        have d1 := (kp _).trans hc.d1
        have d2 := (kp _).trans hc.d2
        have d3 := (kp _).trans hc.d3
        have d4 := (kp _).trans hc.d4
        have d5 := (kp _).trans hc.d5
        have d6 := (kp _).trans hc.d6
        clear hc hck hnm hx hE2 kp
        go_wp2_with fail
        refine (HCx.out wr hB.out).mono ?_
        rintro r w6 ⟨rfl, hb⟩
        have HB6 := Lib.hid (hB.out.trans (hb.mono hB.out.size))
        clear hb d0 d1 d2 d3 d4 d5 d6
        by_cases h2 : E2 = 0
        · have HZ2 : Hid (ckL (L.take (kk + 1)) = 0) := Lib.hid (by rw [HTk.out, h2])
          subst h2
          go_wp2_with fail
          go_roundw
          case rel => exact ⟨kk + 1, by omega, by go_num, HB6, HZ2⟩
          case measure => simp [intOf]; omega
        · have HRm : Hid (R = E2) := Lib.hid (by rw [HR1.out, HTd.out, if_neg h2])
          have hb2 : (E2 == 0) = false := beq_eq_false_iff_ne.2 h2
          clear h2
          go_wp2_with fail
          go_ret
          exact ⟨by rw [HRm.out]; rfl, HB5.out.trans (HB6.out.mono HB5.out.size)⟩
      · obtain rfl : kk = np := by omega
        have HRm : Hid (R = 0) := Lib.hid (by rw [HR1.out, ← hZ.out, List.take_of_length_le (by rw [HNP.out]; exact Nat.le_refl _)])
        go_wp2_with fail
        go_ret
        exact ⟨by rw [HRm.out]; rfl, HBr.out⟩
  · have HR1 : Hid (R = E1) := Lib.hid (by rw [HR.out, if_neg h1])
    have hb1 : (E1 == 0) = false := beq_eq_false_iff_ne.2 h1
    clear h1 HR
    go_wp2_with fail
    go_ret
    exact ⟨by rw [HR1.out]; rfl, HB2.out⟩
end Go.Proofs.YtndgoefhhjcllaaGreatDoor
/- What the reference's left yields: plain. -/
namespace Go.Proofs.YtndgoefhhjcllaaGreatDoor
open Go.RowKit

mutual
/-- the reference's left -/
def rlP : Ex → Int → Int → Int
  | .mk _ _ _ _ _ l _ bs, nodes, d => if d < 1 then -1 else rlL bs (rlL l (nodes - 1) (d - 1)) (d - 1)
def rlL : List Ex → Int → Int → Int
  | [], nodes, _ => nodes
  | e :: r, nodes, d => if nodes < 0 then nodes else rlL r (rlP e nodes d) d
end
theorem rlL_neg (l : List Ex) (nodes d : Int) (h : nodes < 0) : rlL l nodes d = nodes := by
  cases l with
  | nil => rfl
  | cons e r => rw [rlL, if_pos h]
theorem szL_cons (e : Ex) (l : List Ex) : szL (e :: l) = (nodesE 1 e).length + szL l := by unfold szL; simp
theorem szL_append (a b : List Ex) : szL (a ++ b) = szL a + szL b := by unfold szL; rw [List.map_append, List.sum_append]
mutual
theorem rlP_val : ∀ (e : Ex) (nodes d : Int), 0 ≤ nodes → (((hE e : Int) ≤ d ∧ ((nodesE 1 e).length : Int) ≤ nodes) → rlP e nodes d = nodes - (nodesE 1 e).length) ∧ (¬ ((hE e : Int) ≤ d ∧ ((nodesE 1 e).length : Int) ≤ nodes) → rlP e nodes d < 0)
  | .mk k n s t ns l ops bs, nodes, d, h0 => by
    have e1 : (nodesE 1 (.mk k n s t ns l ops bs)).length = 1 + szL (l ++ bs) := size_parts (.mk k n s t ns l ops bs)
    have e2 : hE (.mk k n s t ns l ops bs) = 1 + hL (l ++ bs) := depth_parts (.mk k n s t ns l ops bs)
    rw [szL_append] at e1
    rw [hL_append] at e2
    rw [rlP, e1, e2]
    by_cases hd : d < 1
    · rw [if_pos hd]
      exact ⟨fun h => by omega, fun _ => by omega⟩
    · rw [if_neg hd]
      by_cases hn : nodes - 1 < 0
      · rw [rlL_neg l _ _ hn, rlL_neg bs _ _ hn]
        exact ⟨fun h => by omega, fun _ => hn⟩
      · have g1 := rlL_val l (nodes - 1) (d - 1) (by omega) (by omega)
        by_cases c1 : (hL l : Int) ≤ d - 1 ∧ (szL l : Int) ≤ nodes - 1
        · rw [g1.1 c1]
          have g2 := rlL_val bs (nodes - 1 - szL l) (d - 1) (by omega) (by omega)
          exact ⟨fun h => by rw [g2.1 (by omega)]; omega, fun h => g2.2 (by omega)⟩
        · have g3 := g1.2 c1
          rw [rlL_neg bs _ _ g3]
          exact ⟨fun h => absurd ⟨by omega, by omega⟩ c1, fun _ => g3⟩
theorem rlL_val : ∀ (l : List Ex) (nodes d : Int), 0 ≤ nodes → 0 ≤ d → (((hL l : Int) ≤ d ∧ (szL l : Int) ≤ nodes) → rlL l nodes d = nodes - szL l) ∧ (¬ ((hL l : Int) ≤ d ∧ (szL l : Int) ≤ nodes) → rlL l nodes d < 0)
  | [], nodes, d, h0, hd => by
    refine ⟨fun _ => by rw [rlL]; show nodes = nodes - ((0 : Nat) : Int); omega, fun h => absurd ⟨by simp only [hL]; omega, ?_⟩ h⟩
    show ((0 : Nat) : Int) ≤ nodes
    omega
  | e :: r, nodes, d, h0, hd => by
    have g1 := rlP_val e nodes d h0
    rw [rlL, if_neg (by omega), szL_cons]
    have e2 : hL (e :: r) = max (hE e) (hL r) := by rw [hL]
    rw [e2]
    by_cases c1 : (hE e : Int) ≤ d ∧ ((nodesE 1 e).length : Int) ≤ nodes
    · rw [g1.1 c1]
      have g2 := rlL_val r (nodes - (nodesE 1 e).length) d (by omega) hd
      exact ⟨fun h => by rw [g2.1 (by omega)]; omega, fun h => g2.2 (by omega)⟩
    · have g3 := g1.2 c1
      rw [rlL_neg r _ _ g3]
      exact ⟨fun h => absurd ⟨by omega, by omega⟩ c1, fun _ => g3⟩
end
mutual
theorem rlP_lo : ∀ (e : Ex) (nodes d : Int), 0 ≤ nodes → -1 ≤ rlP e nodes d ∧ rlP e nodes d ≤ nodes
  | .mk k n s t ns l ops bs, nodes, d, h => by
    rw [rlP]
    split
    · omega
    · have g1 := rlL_lo l (nodes - 1) (d - 1) (by omega)
      have g2 := rlL_lo bs (rlL l (nodes - 1) (d - 1)) (d - 1) g1.1
      omega
theorem rlL_lo : ∀ (l : List Ex) (nodes d : Int), -1 ≤ nodes → -1 ≤ rlL l nodes d ∧ rlL l nodes d ≤ nodes
  | [], nodes, d, h => by rw [rlL]; omega
  | e :: r, nodes, d, h => by
    rw [rlL]
    split
    · omega
    · have g1 := rlP_lo e nodes d (by omega)
      have g2 := rlL_lo r (rlP e nodes d) d g1.1
      omega
end
theorem rlL_append : ∀ (a b : List Ex) (nodes d : Int), rlL (a ++ b) nodes d = rlL b (rlL a nodes d) d
  | [], b, nodes, d => by rw [List.nil_append, rlL]
  | x :: r, b, nodes, d => by
    rw [List.cons_append, rlL, rlL]
    split
    · rename_i h
      rw [rlL_neg b _ _ h]
    · exact rlL_append r b _ d
theorem rlL_snoc (l : List Ex) (x : Ex) (nodes d : Int) : rlL (l ++ [x]) nodes d = if rlL l nodes d < 0 then rlL l nodes d else rlP x (rlL l nodes d) d := by
  rw [rlL_append, rlL]
  split
  · rfl
  · rw [rlL]
theorem rlP_parts (e : Ex) (nodes d : Int) : rlP e nodes d = if d < 1 then -1 else rlL e.parts (nodes - 1) (d - 1) := by
  cases e with
  | mk k n s t ns l ops bs =>
    rw [rlP]
    show _ = if d < 1 then -1 else rlL (l ++ bs) _ _
    rw [rlL_append]
end Go.Proofs.YtndgoefhhjcllaaGreatDoor
/- The walk of the reference's left. -/
namespace Go.Proofs.YtndgoefhhjcllaaGreatDoor
open Go.RowKit

def RlSays (e : Ex) : Prop := NmOk e → ∀ (k n : Int) (s t : ByteArray) (A0 : Option Addr) (n0 c0 : Nat) (A1 : Option Addr) (n1 c1 : Nat) (A2 : Option Addr) (n2 c2 : Nat) (nodes d : Int) (w : World), 0 ≤ nodes → nodes ≤ 3000 → 0 ≤ d → d ≤ 200 → RepE (fun _ => True) w e [.int .i64 k, .int .i64 n, .string s, .string t, .slice A0 n0 c0, .slice A1 n1 c1, .slice A2 n2 c2] →
  Calls Tryz.prog 36 #[.agg #[.int .i64 k, .int .i64 n, .string s, .string t, .slice A0 n0 c0, .slice A1 n1 c1, .slice A2 n2 c2], .int .i64 nodes, .int .i64 d] w fun r w' => r = .returned (.int .i64 (rlP e nodes d)) ∧ Below w.heap.size w w'
set_option maxRecDepth 100000 in
set_option maxHeartbeats 4000000 in
theorem rleft_any : ∀ e, RlSays e := by
  refine Ex.ind fun e ih => ?_
  intro hok k n s t A0 n0 c0 A1 n1 c1 A2 n2 c2 N D w hN1 hN2 hD1 hD2 hre
  obtain ⟨W1, hW1⟩ : ∃ W1, w.alloc (.cells #[.int .i64 k, .int .i64 n, .string s, .string t, .slice A0 n0 c0, .slice A1 n1 c1, .slice A2 n2 c2] 27) = W1 := ⟨_, rfl⟩
  have HB1 : Hid (Below w.heap.size w W1) := Lib.hid (by rw [← hW1]; exact (Below.refl _ _).alloc (Nat.le_refl _) _)
  have HE1 : Hid (EB W1 w.heap.size (.int .i64 k) (.int .i64 n) (.string s) (.string t) (.slice A0 n0 c0) (.slice A1 n1 c1) (.slice A2 n2 c2)) := Lib.hid (by rw [← hW1]; exact EB.new w _ _ _ _ _ _ _)
  have hz : w.heap.size < W1.heap.size := HE1.out.lt
  have hre1 := (hre.keep (Same.of_below HB1.out)).tight.weaken (Q := fun b => b < W1.heap.size) (fun x hx => hx.2)
  obtain ⟨_, _, z3, z4⟩ := hok.self
  cases e with
  | mk k' n' s' t' ns l ops bs =>
  simp only [Ex.l, Ex.bs] at z3 z4
  obtain ⟨An, cn, Al, cl', Aa, ca, e, hf, hn, hL, hA, ho⟩ := hre1
  simp only [exCells, List.cons.injEq, Value.int.injEq, Value.string.injEq, Value.slice.injEq, and_true, true_and] at e
  obtain ⟨rfl, rfl, rfl, rfl, ⟨rfl, rfl, rfl⟩, ⟨rfl, rfl, rfl⟩, rfl, rfl, rfl⟩ := e
  have HPL : Hid (PartsAt W1.heap.size W1 A1 l) := Lib.hid (parts_of hL)
  have HPA : Hid (ArmsAt W1.heap.size W1 A2 ops bs) := Lib.hid (arms_of hA)
  have HO := Lib.hid ho
  have HIH : Hid (∀ x ∈ l ++ bs, RlSays x ∧ NmOk x) := Lib.hid (fun x hx => ⟨ih x hx, hok.part hx⟩)
  obtain ⟨R, hR⟩ : ∃ R, R = rlP (.mk k n s' t' ns l ops bs) N D := ⟨_, rfl⟩
  have HR : Hid (R = if D < 1 then -1 else rlL (l ++ bs) (N - 1) (D - 1)) := Lib.hid (by rw [hR, rlP_parts]; rfl)
  obtain ⟨ll, hll⟩ : ∃ q, q = l.length := ⟨_, rfl⟩
  obtain ⟨al, hal⟩ : ∃ q, q = bs.length := ⟨_, rfl⟩
  obtain ⟨nl, hnl⟩ : ∃ q, q = ns.length := ⟨_, rfl⟩
  have HLL := Lib.hid hll
  have HAL := Lib.hid hal
  rw [← hll] at z3
  rw [← hal] at z4
  rw [← hR]
  rw [← hll, ← hal, ← hnl] at hW1 HE1 ⊢
  have e5 := HE1.out.c5
  have e6 := HE1.out.c6
  clear hR hll hal hnl hre hok ih hf hn hL hA ho
  have hNw : IntKind.i64.wrap (N - 1) = N - 1 := IntWalk.i64_in _ (by omega)
  have hDw : IntKind.i64.wrap (D - 1) = D - 1 := IntWalk.i64_in _ (by omega)
  by_cases hd : D < 1
  · have HRm : Hid (R = -1) := Lib.hid (by rw [HR.out, if_pos hd])
    go_enter Tryz.func36, Tryz.ntmps36
    go_wp2_with fail
    go_ret
    exact ⟨by rw [HRm.out]; rfl, by first | exact HB1.out | (rw [hW1]; exact HB1.out)⟩
  · have HRm : Hid (R = rlL (l ++ bs) (N - 1) (D - 1)) := Lib.hid (by rw [HR.out, if_neg hd])
    go_enter Tryz.func36, Tryz.ntmps36
    go_wp2_with fail
    clear hW1
    go_loopw [1, 8] (fun nv iv wr => ∃ kk : Nat, kk ≤ ll + al ∧ nv = .int .i64 (rlL ((l ++ bs).take kk) (N - 1) (D - 1)) ∧ iv = .int .i64 (kk : Int) ∧ Hid (Below W1.heap.size W1 wr)) (fun _ iv _ => ll + al - (intOf iv).toNat)
    case atStart => exact ⟨0, Nat.zero_le _, rfl, rfl, Lib.hid (Below.refl _ _)⟩
    case round =>
      obtain ⟨kk, hkk, rfl, rfl, hB⟩ := hrel
      have HBr := Lib.hid (HB1.out.trans (hB.out.mono HB1.out.size))
      have HEr := Lib.hid (HE1.out.kept (grown_below hB.out none) (by simp))
      clear e5 e6
      have e5 := HEr.out.c5
      have e6 := HEr.out.c6
      have j0 : (0 : Int) ≤ (kk : Int) := by omega
      have hlo := rlL_lo ((l ++ bs).take kk) (N - 1) (D - 1) (by omega)
      obtain ⟨V, hV⟩ : ∃ V, V = rlL ((l ++ bs).take kk) (N - 1) (D - 1) := ⟨_, rfl⟩
      have HV := Lib.hid hV
      rw [← hV] at hlo ⊢
      obtain ⟨v1, v2⟩ := hlo
      have HLen : Hid ((l ++ bs).length = ll + al) := Lib.hid (by rw [List.length_append, HLL.out, HAL.out])
      clear hV
      by_cases hkl : kk < ll + al
      · have i1 : (kk : Int) < (ll : Int) + (al : Int) := by omega
        by_cases hv : V < 0
        · have HRn : Hid (R = V) := Lib.hid (by
            rw [HRm.out, ← List.take_append_drop kk (l ++ bs), rlL_append, ← HV.out, rlL_neg _ _ _ hv])
          have i2 : ¬ (0 : Int) ≤ V := by omega
          have i3 : decide (V ≥ 0) = false := decide_eq_false (by omega)
          go_wp2_with fail
          go_ret
          exact ⟨by rw [HRn.out]; rfl, HBr.out⟩
        · have hkl' : kk < (l ++ bs).length := by rw [HLen.out]; exact hkl
          have i2 : (0 : Int) ≤ V := by omega
          have i3 : decide (V ≥ 0) = true := decide_eq_true (by omega)
          obtain ⟨x, hx⟩ : ∃ x, x = (l ++ bs)[kk] := ⟨_, rfl⟩
          have HMem : Hid (x ∈ l ++ bs) := Lib.hid (by rw [hx]; exact List.getElem_mem hkl')
          have HTk : Hid (rlL ((l ++ bs).take (kk + 1)) (N - 1) (D - 1) = rlP x V (D - 1)) := Lib.hid (by rw [take_succ_of hkl', rlL_snoc, ← HV.out, if_neg hv, ← hx])
          by_cases hl2 : kk < ll
          · have i4 : (kk : Int) < (ll : Int) := by omega
            have HXl : Hid (l[kk]? = some x) := Lib.hid (by
              have h1 := List.getElem?_eq_getElem hkl'
              rw [← hx, List.getElem?_append_left (by rw [← HLL.out]; exact hl2)] at h1; exact h1)
            obtain ⟨b, off, rfl⟩ := HPL.out.addr (by rw [← HLL.out]; omega)
            obtain ⟨⟨hb1, hb2⟩, k0, m0, s0, t0, B0, q0, r0, B1, q1, r1, B2, q2, r2, hc⟩ := HPL.out.at HXl.out
            obtain ⟨hck, hnm⟩ := HIH.out x (HMem.out)
            have HCx : Hid (∀ w', Below W1.heap.size W1 w' → Calls Tryz.prog 36 #[.agg #[.int .i64 k0, .int .i64 m0, .string s0, .string t0, .slice B0 q0 r0, .slice B1 q1 r1, .slice B2 q2 r2], .int .i64 V, .int .i64 (D - 1)] w' fun r w2 => r = .returned (.int .i64 (rlP x V (D - 1))) ∧ Below w'.heap.size w' w2) := Lib.hid (fun w' hb => hck hnm k0 m0 s0 t0 B0 q0 r0 B1 q1 r1 B2 q2 r2 V (D - 1) w' (by omega) (by omega) (by omega) (by omega) ((hc.rep.keep (Same.of_below hb)).weaken (fun _ _ => trivial)))
            have kp : ∀ o, wr.cell? ⟨b, o, none⟩ = W1.cell? ⟨b, o, none⟩ := fun o => Below.cell (p := ⟨b, o, none⟩) hB.out hb1
            have d0 := (kp _).trans hc.d0
            have d1 := (kp _).trans hc.d1
            have d2 := (kp _).trans hc.d2
            have d3 := (kp _).trans hc.d3
            have d4 := (kp _).trans hc.d4
            have d5 := (kp _).trans hc.d5
            have d6 := (kp _).trans hc.d6
            clear hx
            clear hc hck hnm kp
            go_wp2_with fail
            refine (HCx.out wr hB.out).mono ?_
            rintro r w6 ⟨rfl, hb⟩
            have HB6 := Lib.hid (hB.out.trans (hb.mono hB.out.size))
            clear hb
            go_wp2_with fail
            go_roundw
            case rel => exact ⟨kk + 1, by omega, by rw [HTk.out], by go_num, HB6⟩
            case measure => simp [intOf]; omega
          · obtain ⟨jj, hjj⟩ : ∃ jj, kk = ll + jj := ⟨kk - ll, by omega⟩
            have i4 : ¬ (kk : Int) < (ll : Int) := by omega
            have hjw : IntKind.i64.wrap ((kk : Int) - (ll : Int)) = (jj : Int) := by rw [IntWalk.i64_in _ (by omega)]; omega
            have i5 : (0 : Int) ≤ (jj : Int) := by omega
            have i6 : (jj : Int) < (al : Int) := by omega
            have HJJ := Lib.hid hjj
            have HXl : Hid (bs[jj]? = some x) := Lib.hid (by
              have h1 := List.getElem?_eq_getElem hkl'
              rw [← hx, List.getElem?_append_right (by rw [← HLL.out]; omega), show kk - l.length = jj by rw [← HLL.out]; omega] at h1; exact h1)
            have hjo : jj < ops.length := by rw [HO.out, ← HAL.out]; omega
            obtain ⟨b, off, rfl, hb1', hb1, hcc⟩ := HPA.out (List.ne_nil_of_length_pos (by rw [← HAL.out]; omega))
            obtain ⟨Ax, cx, k0, m0, s0, t0, B0, q0, r0, B1, q1, r1, B2, q2, r2, hc⟩ := hcc jj _ x (List.getElem?_eq_getElem hjo) HXl.out
            obtain ⟨hck, hnm⟩ := HIH.out x (HMem.out)
            have HCx : Hid (∀ w', Below W1.heap.size W1 w' → Calls Tryz.prog 36 #[.agg #[.int .i64 k0, .int .i64 m0, .string s0, .string t0, .slice B0 q0 r0, .slice B1 q1 r1, .slice B2 q2 r2], .int .i64 V, .int .i64 (D - 1)] w' fun r w2 => r = .returned (.int .i64 (rlP x V (D - 1))) ∧ Below w'.heap.size w' w2) := Lib.hid (fun w' hb => hck hnm k0 m0 s0 t0 B0 q0 r0 B1 q1 r1 B2 q2 r2 V (D - 1) w' (by omega) (by omega) (by omega) (by omega) ((hc.rep.keep (Same.of_below hb)).weaken (fun _ _ => trivial)))
            have kp : ∀ o, wr.cell? ⟨b, o, none⟩ = W1.cell? ⟨b, o, none⟩ := fun o => Below.cell (p := ⟨b, o, none⟩) hB.out hb1
            have d2 := (kp _).trans hc.d2
            have d3 := (kp _).trans hc.d3
            have d4 := (kp _).trans hc.d4
            have d5 := (kp _).trans hc.d5
            have d6 := (kp _).trans hc.d6
            have d7 := (kp _).trans hc.d7
            have d8 := (kp _).trans hc.d8
            clear hx hcc hjj
            clear hc hck hnm kp
            go_wp2_with fail
            refine (HCx.out wr hB.out).mono ?_
            rintro r w6 ⟨rfl, hb⟩
            have HB6 := Lib.hid (hB.out.trans (hb.mono hB.out.size))
            clear hb
            go_wp2_with fail
            go_roundw
            case rel => exact ⟨kk + 1, by omega, by rw [HTk.out], by go_num, HB6⟩
            case measure => simp [intOf]; omega
      · obtain rfl : kk = ll + al := by omega
        have HRn : Hid (R = V) := Lib.hid (by rw [HRm.out, HV.out, List.take_of_length_le (by rw [HLen.out]; exact Nat.le_refl _)])
        have i1 : ¬ (((ll + al : Nat)) : Int) < (ll : Int) + (al : Int) := by omega
        go_wp2_with fail
        go_ret
        exact ⟨by rw [HRn.out]; rfl, HBr.out⟩
end Go.Proofs.YtndgoefhhjcllaaGreatDoor
/- The reference's Check, Size, Depth are the program's. -/
namespace Go.Proofs.YtndgoefhhjcllaaGreatDoor
open Go.RowKit

theorem msd_err (e : Ex) : (msd chkN e).2.2 = if (hE e : Int) ≤ 200 ∧ ((nodesE 1 e).length : Int) ≤ 3000 then ckP e else 3 := by
  have hm := maxD_E e 0 1
  by_cases h : (hE e : Int) ≤ 200 ∧ ((nodesE 1 e).length : Int) ≤ 3000
  · rw [if_pos h]
    have hv := measF_val (nodesE 1 e) 0 0 (by omega) (by omega)
    unfold msd ckP
    rw [hv, if_neg (by simp only; omega)]
    split
    · rename_i h0; rw [h0]
    · rfl
  · rw [if_neg h]
    unfold msd
    by_cases hc : 3000 < (measF 0 0 (nodesE 1 e)).1 ∨ 200 < (measF 0 0 (nodesE 1 e)).2
    · rw [if_pos hc]
    · have g1 := measF_len (nodesE 1 e) 0 0 (by omega) (by omega)
      have g2 := measF_maxD (nodesE 1 e) 0 0 (by omega) (by omega)
      exact absurd ⟨by omega, by omega⟩ h
theorem rlP_msd (e : Ex) : (rlP e 3000 200 < 0 ↔ ¬ ((hE e : Int) ≤ 200 ∧ ((nodesE 1 e).length : Int) ≤ 3000)) := by
  have g := rlP_val e 3000 200 (by omega)
  by_cases h : (hE e : Int) ≤ 200 ∧ ((nodesE 1 e).length : Int) ≤ 3000
  · rw [g.1 h]
    exact ⟨fun h2 => by omega, fun h2 => absurd h h2⟩
  · exact ⟨fun _ => h, fun _ => g.2 h⟩
set_option maxRecDepth 100000 in
set_option maxHeartbeats 2000000 in
theorem rCheck_any (e : Ex) (hok : NmOk e) (k n : Int) (s t : ByteArray) (A0 : Option Addr) (n0 c0 : Nat) (A1 : Option Addr) (n1 c1 : Nat) (A2 : Option Addr) (n2 c2 : Nat) (w : World) (hre : RepE (fun _ => True) w e [.int .i64 k, .int .i64 n, .string s, .string t, .slice A0 n0 c0, .slice A1 n1 c1, .slice A2 n2 c2]) :
    Calls Tryz.prog 13 #[.agg #[.int .i64 k, .int .i64 n, .string s, .string t, .slice A0 n0 c0, .slice A1 n1 c1, .slice A2 n2 c2]] w fun r w' => r = .returned (.int .i64 (msd chkN e).2.2) ∧ Below w.heap.size w w' := by
  obtain ⟨W1, hW1⟩ : ∃ W1, w.alloc (.cells #[.int .i64 k, .int .i64 n, .string s, .string t, .slice A0 n0 c0, .slice A1 n1 c1, .slice A2 n2 c2] 27) = W1 := ⟨_, rfl⟩
  have HB1 : Hid (Below w.heap.size w W1) := Lib.hid (by rw [← hW1]; exact (Below.refl _ _).alloc (Nat.le_refl _) _)
  have HE1 : Hid (EB W1 w.heap.size (.int .i64 k) (.int .i64 n) (.string s) (.string t) (.slice A0 n0 c0) (.slice A1 n1 c1) (.slice A2 n2 c2)) := Lib.hid (by rw [← hW1]; exact EB.new w _ _ _ _ _ _ _)
  have HLf : Hid (∀ w', Below w.heap.size w w' → Calls Tryz.prog 36 #[.agg #[.int .i64 k, .int .i64 n, .string s, .string t, .slice A0 n0 c0, .slice A1 n1 c1, .slice A2 n2 c2], .int .i64 3000, .int .i64 200] w' fun r w2 => r = .returned (.int .i64 (rlP e 3000 200)) ∧ Below w'.heap.size w' w2) := Lib.hid (fun w' hb => rleft_any e hok k n s t A0 n0 c0 A1 n1 c1 A2 n2 c2 3000 200 w' (by omega) (by omega) (by omega) (by omega) (hre.keep (Same.of_below hb)))
  have HCk : Hid (∀ w', Below w.heap.size w w' → Calls Tryz.prog 37 #[.agg #[.int .i64 k, .int .i64 n, .string s, .string t, .slice A0 n0 c0, .slice A1 n1 c1, .slice A2 n2 c2]] w' fun r w2 => r = .returned (.int .i64 (ckP e)) ∧ Below w'.heap.size w' w2) := Lib.hid (fun w' hb => checked_any e hok k n s t A0 n0 c0 A1 n1 c1 A2 n2 c2 w' (hre.keep (Same.of_below hb)))
  have HM := Lib.hid (msd_err e)
  have HV := Lib.hid (rlP_msd e)
  obtain ⟨V, hV⟩ : ∃ V, V = rlP e 3000 200 := ⟨_, rfl⟩
  obtain ⟨R, hR⟩ : ∃ R, R = (msd chkN e).2.2 := ⟨_, rfl⟩
  obtain ⟨E, hE'⟩ : ∃ E, E = ckP e := ⟨_, rfl⟩
  rw [← hV] at HLf HV
  rw [← hR, ← hE'] at HM
  rw [← hE'] at HCk
  rw [← hR]
  have e0 := HE1.out.c0
  have e1 := HE1.out.c1
  have e2 := HE1.out.c2
  have e3 := HE1.out.c3
  have e4 := HE1.out.c4
  have e5 := HE1.out.c5
  have e6 := HE1.out.c6
  clear hV hR hE' hre hok
  by_cases hv : V < 0
  · have HRm : Hid (R = 3) := Lib.hid (by rw [HM.out, if_neg (HV.out.1 hv)])
    go_enter Tryz.func13, Tryz.ntmps13
    go_wp2_with fail
    clear hW1
    refine (HLf.out W1 HB1.out).mono ?_
    rintro r w2 ⟨rfl, hb⟩
    have HB2 := Lib.hid (HB1.out.trans (hb.mono HB1.out.size))
    clear hb e0 e1 e2 e3 e4 e5 e6
    go_wp2_with fail
    go_ret
    exact ⟨by rw [HRm.out]; rfl, HB2.out⟩
  · have HRm : Hid (R = E) := Lib.hid (by rw [HM.out, if_pos (Classical.byContradiction fun h => hv (HV.out.2 h))])
    go_enter Tryz.func13, Tryz.ntmps13
    go_wp2_with fail
    clear hW1
    refine (HLf.out W1 HB1.out).mono ?_
    rintro r w2 ⟨rfl, hb⟩
    have HB2 := Lib.hid (HB1.out.trans (hb.mono HB1.out.size))
    have HE2 := Lib.hid (HE1.out.kept (grown_below hb none) (by simp))
    clear hb e0 e1 e2 e3 e4 e5 e6
    have e0 := HE2.out.c0
    have e1 := HE2.out.c1
    have e2 := HE2.out.c2
    have e3 := HE2.out.c3
    have e4 := HE2.out.c4
    have e5 := HE2.out.c5
    have e6 := HE2.out.c6
    go_wp2_with fail
    refine (HCk.out w2 HB2.out).mono ?_
    rintro r w3 ⟨rfl, hb⟩
    have HB3 := Lib.hid (HB2.out.trans (hb.mono HB2.out.size))
    clear hb e0 e1 e2 e3 e4 e5 e6
    go_wp2_with fail
    go_ret
    exact ⟨by rw [HRm.out]; rfl, HB3.out⟩
end Go.Proofs.YtndgoefhhjcllaaGreatDoor
/- The reference's depth. -/
namespace Go.Proofs.YtndgoefhhjcllaaGreatDoor
open Go.RowKit

def DpSays (e : Ex) : Prop := NmOk e → hE e ≤ 1000 → ∀ (k n : Int) (s t : ByteArray) (A0 : Option Addr) (n0 c0 : Nat) (A1 : Option Addr) (n1 c1 : Nat) (A2 : Option Addr) (n2 c2 : Nat) (w : World), RepE (fun _ => True) w e [.int .i64 k, .int .i64 n, .string s, .string t, .slice A0 n0 c0, .slice A1 n1 c1, .slice A2 n2 c2] →
  Calls Tryz.prog 38 #[.agg #[.int .i64 k, .int .i64 n, .string s, .string t, .slice A0 n0 c0, .slice A1 n1 c1, .slice A2 n2 c2]] w fun r w' => r = .returned (.int .i64 ((hE e : Nat) : Int)) ∧ Below w.heap.size w w'
set_option maxRecDepth 100000 in
set_option maxHeartbeats 4000000 in
theorem depth_any : ∀ e, DpSays e := by
  refine Ex.ind fun e ih => ?_
  intro hok hh9 k n s t A0 n0 c0 A1 n1 c1 A2 n2 c2 w hre
  obtain ⟨W1, hW1⟩ : ∃ W1, w.alloc (.cells #[.int .i64 k, .int .i64 n, .string s, .string t, .slice A0 n0 c0, .slice A1 n1 c1, .slice A2 n2 c2] 27) = W1 := ⟨_, rfl⟩
  have HB1 : Hid (Below w.heap.size w W1) := Lib.hid (by rw [← hW1]; exact (Below.refl _ _).alloc (Nat.le_refl _) _)
  have HE1 : Hid (EB W1 w.heap.size (.int .i64 k) (.int .i64 n) (.string s) (.string t) (.slice A0 n0 c0) (.slice A1 n1 c1) (.slice A2 n2 c2)) := Lib.hid (by rw [← hW1]; exact EB.new w _ _ _ _ _ _ _)
  obtain ⟨z1, z2, z3, z4⟩ := hok.self
  obtain ⟨R, hR⟩ : ∃ R : Int, R = ((hE e : Nat) : Int) := ⟨_, rfl⟩
  obtain ⟨L, hL⟩ : ∃ L, L = e.parts := ⟨_, rfl⟩
  have HR : Hid (R = 1 + ((Proofs.YtndgoefhhjcllaaGreatDoor.hL L : Nat) : Int)) := Lib.hid (by have := depth_parts e; rw [hR, hL]; omega)
  have HH9 : Hid (Proofs.YtndgoefhhjcllaaGreatDoor.hL L ≤ 1000) := Lib.hid (by have := depth_parts e; rw [hL]; omega)
  have HPt := Lib.hid (fun w' (hb : Below w.heap.size w w') => Parts_any _ e k n s t A0 n0 c0 A1 n1 c1 A2 n2 c2 w' (hre.keep (Same.of_below hb)) ⟨by omega, by omega⟩)
  have HIH : Hid (∀ x ∈ L, DpSays x ∧ NmOk x) := Lib.hid (fun x hx => ⟨ih x (by rw [← hL]; exact hx), hok.part (by rw [← hL]; exact hx)⟩)
  have HL := Lib.hid hL
  obtain ⟨np, hnp⟩ : ∃ q, q = L.length := ⟨_, rfl⟩
  have hpl : np ≤ 1000 := by rw [hnp, hL]; unfold Ex.parts; rw [List.length_append]; omega
  have HNP := Lib.hid hnp
  rw [← hR]
  have e0 := HE1.out.c0
  have e1 := HE1.out.c1
  have e2 := HE1.out.c2
  have e3 := HE1.out.c3
  have e4 := HE1.out.c4
  have e5 := HE1.out.c5
  have e6 := HE1.out.c6
  clear hR hL hnp hre hok ih z1 z2 z3 z4 hh9
  go_enter Tryz.func38, Tryz.ntmps38
  go_wp2_with fail
  clear hW1
  refine (HPt.out W1 HB1.out).mono ?_
  rintro r w5 ⟨A, c, rfl, hpa, hb⟩
  have HB5 := Lib.hid (HB1.out.trans (hb.mono HB1.out.size))
  have HPA := Lib.hid hpa
  rw [← HL.out] at HPA ⊢
  rw [← HNP.out]
  clear hb hpa e0 e1 e2 e3 e4 e5 e6 HPt
  go_wp2_with fail
  go_loopw [4, 5] (fun dv iv wr => ∃ kk : Nat, kk ≤ np ∧ iv = .int .i64 (kk : Int) ∧ Hid (Below w5.heap.size w5 wr) ∧ dv = .int .i64 ((hL (L.take kk) : Nat) : Int)) (fun _ iv _ => np - (intOf iv).toNat)
  case atStart => exact ⟨0, Nat.zero_le _, rfl, Lib.hid (Below.refl _ _), rfl⟩
  case round =>
    obtain ⟨kk, hkk, rfl, hB, rfl⟩ := hrel
    have HBr := Lib.hid (HB5.out.trans (hB.out.mono HB5.out.size))
    have j0 : (0 : Int) ≤ (kk : Int) := by omega
    by_cases hkl : kk < np
    · have hkl' : kk < L.length := by rw [← HNP.out]; exact hkl
      have i1 : (kk : Int) < (np : Int) := by omega
      obtain ⟨x, hx⟩ : ∃ x, x = L[kk] := ⟨_, rfl⟩
      have HXl : Hid (L[kk]? = some x) := Lib.hid (by rw [hx]; exact List.getElem?_eq_getElem hkl')
      obtain ⟨hck, hnm⟩ := HIH.out x (by rw [hx]; exact List.getElem_mem hkl')
      have HTh : Hid (hL (L.take (kk + 1)) = max (hL (L.take kk)) (hE x)) := Lib.hid (by rw [take_succ_of hkl', hL_snoc, ← hx])
      have b2 := hL_take L (kk + 1)
      rw [HTh.out] at b2
      have b4 := HH9.out
      obtain ⟨h1, hh1⟩ : ∃ q, q = hL (L.take kk) := ⟨_, rfl⟩
      rw [← hh1] at b2 HTh ⊢
      have b6 : h1 ≤ 1000 := by omega
      have b7 : hE x ≤ 1000 := by omega
      obtain ⟨b, off, rfl⟩ := HPA.out.addr (by rw [← HNP.out]; omega)
      obtain ⟨⟨hb1, hb2⟩, k0, m0, s0, t0, B0, q0, r0, B1, q1, r1, B2, q2, r2, hc⟩ := HPA.out.at HXl.out
      obtain ⟨E2, hE2⟩ : ∃ E2, E2 = hE x := ⟨_, rfl⟩
      have HCx : Hid (∀ w', Below w5.heap.size w5 w' → Calls Tryz.prog 38 #[.agg #[.int .i64 k0, .int .i64 m0, .string s0, .string t0, .slice B0 q0 r0, .slice B1 q1 r1, .slice B2 q2 r2]] w' fun r w2 => r = .returned (.int .i64 ((E2 : Nat) : Int)) ∧ Below w'.heap.size w' w2) := Lib.hid (fun w' hb => by
        rw [hE2]; exact hck hnm b7 k0 m0 s0 t0 B0 q0 r0 B1 q1 r1 B2 q2 r2 w' ((hc.rep.keep (Same.of_below hb)).weaken (fun _ _ => trivial)))
      rw [← hE2] at HTh
      have kp : ∀ o, wr.cell? ⟨b, o, none⟩ = w5.cell? ⟨b, o, none⟩ := fun o => Below.cell (p := ⟨b, o, none⟩) hB.out hb1
      have d0 := (kp _).trans hc.d0
      have d1 := (kp _).trans hc.d1
      have d2 := (kp _).trans hc.d2
      have d3 := (kp _).trans hc.d3
      have d4 := (kp _).trans hc.d4
      have d5 := (kp _).trans hc.d5
      have d6 := (kp _).trans hc.d6
      have b8 : E2 ≤ 1000 := by omega
      clear hc hck hnm hx hE2 kp b2 b4 b7 hh1
      go_wp2_with fail
      refine (HCx.out wr hB.out).mono ?_
      rintro r w6 ⟨rfl, hb⟩
      have HB6 := Lib.hid (hB.out.trans (hb.mono hB.out.size))
      clear hb d0 d1 d2 d3 d4 d5 d6
      go_wp2_with fail
      go_roundw
      case rel => exact ⟨kk + 1, by omega, by go_num, HB6, by rw [HTh.out]; exact congrArg (Value.int .i64) (by omega)⟩
      case measure => simp [intOf]; omega
    · obtain rfl : kk = np := by omega
      have HRm : Hid (R = ((hL (L.take kk) : Nat) : Int) + 1) := Lib.hid (by rw [HR.out, List.take_of_length_le (by rw [HNP.out]; exact Nat.le_refl _)]; omega)
      have b4 := HH9.out
      have b5 := hL_take L kk
      obtain ⟨h1, hh1⟩ : ∃ q, q = hL (L.take kk) := ⟨_, rfl⟩
      rw [← hh1] at HRm b5 ⊢
      have b6 : h1 ≤ 1000 := by omega
      clear b4 b5 hh1
      go_wp2_with fail
      go_ret
      exact ⟨by rw [HRm.out]; rfl, HBr.out⟩
end Go.Proofs.YtndgoefhhjcllaaGreatDoor
/- The reference's Size and Depth. -/
namespace Go.Proofs.YtndgoefhhjcllaaGreatDoor
open Go.RowKit

theorem msd_bad {e : Ex} (h : ¬ (msd chkN e).2.2 = 0) : (msd chkN e).1 = 0 ∧ (msd chkN e).2.1 = 0 := by
  unfold msd at h ⊢
  split
  · exact ⟨rfl, rfl⟩
  · rename_i hc
    rw [if_neg hc] at h
    split
    · rename_i h0; rw [if_pos h0] at h; exact absurd rfl h
    · exact ⟨rfl, rfl⟩
set_option maxRecDepth 100000 in
set_option maxHeartbeats 2000000 in
theorem rSize_any (e : Ex) (hok : NmOk e) (k n : Int) (s t : ByteArray) (A0 : Option Addr) (n0 c0 : Nat) (A1 : Option Addr) (n1 c1 : Nat) (A2 : Option Addr) (n2 c2 : Nat) (w : World) (hre : RepE (fun _ => True) w e [.int .i64 k, .int .i64 n, .string s, .string t, .slice A0 n0 c0, .slice A1 n1 c1, .slice A2 n2 c2]) :
    Calls Tryz.prog 15 #[.agg #[.int .i64 k, .int .i64 n, .string s, .string t, .slice A0 n0 c0, .slice A1 n1 c1, .slice A2 n2 c2]] w fun r w' => r = .returned (.int .i64 (msd chkN e).1) ∧ Below w.heap.size w w' := by
  obtain ⟨W1, hW1⟩ : ∃ W1, w.alloc (.cells #[.int .i64 k, .int .i64 n, .string s, .string t, .slice A0 n0 c0, .slice A1 n1 c1, .slice A2 n2 c2] 27) = W1 := ⟨_, rfl⟩
  have HB1 : Hid (Below w.heap.size w W1) := Lib.hid (by rw [← hW1]; exact (Below.refl _ _).alloc (Nat.le_refl _) _)
  have HE1 : Hid (EB W1 w.heap.size (.int .i64 k) (.int .i64 n) (.string s) (.string t) (.slice A0 n0 c0) (.slice A1 n1 c1) (.slice A2 n2 c2)) := Lib.hid (by rw [← hW1]; exact EB.new w _ _ _ _ _ _ _)
  obtain ⟨V, hV⟩ : ∃ V, V = (msd chkN e).2.2 := ⟨_, rfl⟩
  obtain ⟨R, hR⟩ : ∃ R, R = (msd chkN e).1 := ⟨_, rfl⟩
  have HCk : Hid (∀ w', Below w.heap.size w w' → Calls Tryz.prog 13 #[.agg #[.int .i64 k, .int .i64 n, .string s, .string t, .slice A0 n0 c0, .slice A1 n1 c1, .slice A2 n2 c2]] w' fun r w2 => r = .returned (.int .i64 V) ∧ Below w'.heap.size w' w2) := Lib.hid (fun w' hb => by rw [hV]; exact rCheck_any e hok k n s t A0 n0 c0 A1 n1 c1 A2 n2 c2 w' (hre.keep (Same.of_below hb)))
  rw [← hR]
  have e0 := HE1.out.c0
  have e1 := HE1.out.c1
  have e2 := HE1.out.c2
  have e3 := HE1.out.c3
  have e4 := HE1.out.c4
  have e5 := HE1.out.c5
  have e6 := HE1.out.c6
  by_cases hv : V = 0
  · have hm := msd_val (hV.symm.trans hv)
    obtain ⟨_, g2, g3⟩ := msd_iff.1 (hV.symm.trans hv)
    obtain ⟨q, hq⟩ : ∃ q, q = rlP e 3000 200 := ⟨_, rfl⟩
    have hq2 : q = 3000 - ((nodesE 1 e).length : Int) := by rw [hq]; exact (rlP_val e 3000 200 (by omega)).1 ⟨by omega, by omega⟩
    have HD : Hid (∀ w', Below w.heap.size w w' → Calls Tryz.prog 36 #[.agg #[.int .i64 k, .int .i64 n, .string s, .string t, .slice A0 n0 c0, .slice A1 n1 c1, .slice A2 n2 c2], .int .i64 3000, .int .i64 200] w' fun r w2 => r = .returned (.int .i64 q) ∧ Below w'.heap.size w' w2) := Lib.hid (fun w' hb => by rw [hq]; exact rleft_any e hok k n s t A0 n0 c0 A1 n1 c1 A2 n2 c2 3000 200 w' (by omega) (by omega) (by omega) (by omega) (hre.keep (Same.of_below hb)))
    have HRm : Hid (R = 3000 - q) := Lib.hid (by rw [hR, hm, hq2]; simp only; omega)
    have q0 : 0 ≤ q := by omega
    have q1 : q ≤ 3000 := by omega
    clear hq hq2
    clear hV hR hre hok hm g2 g3
    subst hv
    go_enter Tryz.func15, Tryz.ntmps15
    go_wp2_with fail
    clear hW1
    refine (HCk.out W1 HB1.out).mono ?_
    rintro r w2 ⟨rfl, hb⟩
    have HB2 := Lib.hid (HB1.out.trans (hb.mono HB1.out.size))
    have HE2 := Lib.hid (HE1.out.kept (grown_below hb none) (by simp))
    clear hb e0 e1 e2 e3 e4 e5 e6
    have e0 := HE2.out.c0
    have e1 := HE2.out.c1
    have e2 := HE2.out.c2
    have e3 := HE2.out.c3
    have e4 := HE2.out.c4
    have e5 := HE2.out.c5
    have e6 := HE2.out.c6
    go_wp2_with fail
    refine (HD.out w2 HB2.out).mono ?_
    rintro r w3 ⟨rfl, hb⟩
    have HB3 := Lib.hid (HB2.out.trans (hb.mono HB2.out.size))
    clear hb e0 e1 e2 e3 e4 e5 e6
    go_wp2_with fail
    go_ret
    exact ⟨by rw [HRm.out]; exact congrArg (fun x => Ending.returned (Value.int .i64 x)) (by first | rfl | omega), HB3.out⟩
  · have HRm : Hid (R = 0) := Lib.hid (by rw [hR]; exact (msd_bad (fun h => hv (hV.trans h))).1)
    have hvb : (V == 0) = false := beq_eq_false_iff_ne.2 hv
    clear hV hR hre hok hv
    go_enter Tryz.func15, Tryz.ntmps15
    go_wp2_with fail
    clear hW1
    refine (HCk.out W1 HB1.out).mono ?_
    rintro r w2 ⟨rfl, hb⟩
    have HB2 := Lib.hid (HB1.out.trans (hb.mono HB1.out.size))
    clear hb e0 e1 e2 e3 e4 e5 e6
    go_wp2_with fail
    go_ret
    exact ⟨by rw [HRm.out]; rfl, HB2.out⟩
set_option maxRecDepth 100000 in
set_option maxHeartbeats 2000000 in
theorem rDepth_any (e : Ex) (hok : NmOk e) (k n : Int) (s t : ByteArray) (A0 : Option Addr) (n0 c0 : Nat) (A1 : Option Addr) (n1 c1 : Nat) (A2 : Option Addr) (n2 c2 : Nat) (w : World) (hre : RepE (fun _ => True) w e [.int .i64 k, .int .i64 n, .string s, .string t, .slice A0 n0 c0, .slice A1 n1 c1, .slice A2 n2 c2]) :
    Calls Tryz.prog 17 #[.agg #[.int .i64 k, .int .i64 n, .string s, .string t, .slice A0 n0 c0, .slice A1 n1 c1, .slice A2 n2 c2]] w fun r w' => r = .returned (.int .i64 (msd chkN e).2.1) ∧ Below w.heap.size w w' := by
  obtain ⟨W1, hW1⟩ : ∃ W1, w.alloc (.cells #[.int .i64 k, .int .i64 n, .string s, .string t, .slice A0 n0 c0, .slice A1 n1 c1, .slice A2 n2 c2] 27) = W1 := ⟨_, rfl⟩
  have HB1 : Hid (Below w.heap.size w W1) := Lib.hid (by rw [← hW1]; exact (Below.refl _ _).alloc (Nat.le_refl _) _)
  have HE1 : Hid (EB W1 w.heap.size (.int .i64 k) (.int .i64 n) (.string s) (.string t) (.slice A0 n0 c0) (.slice A1 n1 c1) (.slice A2 n2 c2)) := Lib.hid (by rw [← hW1]; exact EB.new w _ _ _ _ _ _ _)
  obtain ⟨V, hV⟩ : ∃ V, V = (msd chkN e).2.2 := ⟨_, rfl⟩
  obtain ⟨R, hR⟩ : ∃ R, R = (msd chkN e).2.1 := ⟨_, rfl⟩
  have HCk : Hid (∀ w', Below w.heap.size w w' → Calls Tryz.prog 13 #[.agg #[.int .i64 k, .int .i64 n, .string s, .string t, .slice A0 n0 c0, .slice A1 n1 c1, .slice A2 n2 c2]] w' fun r w2 => r = .returned (.int .i64 V) ∧ Below w'.heap.size w' w2) := Lib.hid (fun w' hb => by rw [hV]; exact rCheck_any e hok k n s t A0 n0 c0 A1 n1 c1 A2 n2 c2 w' (hre.keep (Same.of_below hb)))
  rw [← hR]
  have e0 := HE1.out.c0
  have e1 := HE1.out.c1
  have e2 := HE1.out.c2
  have e3 := HE1.out.c3
  have e4 := HE1.out.c4
  have e5 := HE1.out.c5
  have e6 := HE1.out.c6
  by_cases hv : V = 0
  · have hm := msd_val (hV.symm.trans hv)
    obtain ⟨_, g2, g3⟩ := msd_iff.1 (hV.symm.trans hv)
    obtain ⟨q, hq⟩ : ∃ q, q = hE e := ⟨_, rfl⟩
    have HD : Hid (∀ w', Below w.heap.size w w' → Calls Tryz.prog 38 #[.agg #[.int .i64 k, .int .i64 n, .string s, .string t, .slice A0 n0 c0, .slice A1 n1 c1, .slice A2 n2 c2]] w' fun r w2 => r = .returned (.int .i64 ((q : Nat) : Int)) ∧ Below w'.heap.size w' w2) := Lib.hid (fun w' hb => by rw [hq]; exact depth_any e hok (by omega) k n s t A0 n0 c0 A1 n1 c1 A2 n2 c2 w' (hre.keep (Same.of_below hb)))
    have HRm : Hid (R = ((q : Nat) : Int)) := Lib.hid (by rw [hR, hm, hq])
    clear hq
    clear hV hR hre hok hm g2 g3
    subst hv
    go_enter Tryz.func17, Tryz.ntmps17
    go_wp2_with fail
    clear hW1
    refine (HCk.out W1 HB1.out).mono ?_
    rintro r w2 ⟨rfl, hb⟩
    have HB2 := Lib.hid (HB1.out.trans (hb.mono HB1.out.size))
    have HE2 := Lib.hid (HE1.out.kept (grown_below hb none) (by simp))
    clear hb e0 e1 e2 e3 e4 e5 e6
    have e0 := HE2.out.c0
    have e1 := HE2.out.c1
    have e2 := HE2.out.c2
    have e3 := HE2.out.c3
    have e4 := HE2.out.c4
    have e5 := HE2.out.c5
    have e6 := HE2.out.c6
    go_wp2_with fail
    refine (HD.out w2 HB2.out).mono ?_
    rintro r w3 ⟨rfl, hb⟩
    have HB3 := Lib.hid (HB2.out.trans (hb.mono HB2.out.size))
    clear hb e0 e1 e2 e3 e4 e5 e6
    go_wp2_with fail
    go_ret
    exact ⟨by rw [HRm.out]; rfl, HB3.out⟩
  · have HRm : Hid (R = 0) := Lib.hid (by rw [hR]; exact (msd_bad (fun h => hv (hV.trans h))).2)
    have hvb : (V == 0) = false := beq_eq_false_iff_ne.2 hv
    clear hV hR hre hok hv
    go_enter Tryz.func17, Tryz.ntmps17
    go_wp2_with fail
    clear hW1
    refine (HCk.out W1 HB1.out).mono ?_
    rintro r w2 ⟨rfl, hb⟩
    have HB2 := Lib.hid (HB1.out.trans (hb.mono HB1.out.size))
    clear hb e0 e1 e2 e3 e4 e5 e6
    go_wp2_with fail
    go_ret
    exact ⟨by rw [HRm.out]; rfl, HB2.out⟩
end Go.Proofs.YtndgoefhhjcllaaGreatDoor
/- What is not too large has short lists. -/
namespace Go.Proofs.YtndgoefhhjcllaaGreatDoor
open Go.RowKit

theorem NmOk.mk {e : Ex} (h : e.ns.length ≤ 1000 ∧ (∀ o ∈ e.ops, o.2.length ≤ 1000) ∧ e.l.length ≤ 50 ∧ e.bs.length ≤ 50) (hp : ∀ x ∈ e.parts, NmOk x) : NmOk e := by
  cases e with
  | mk k n s t ns l ops bs =>
    intro q hq
    simp only [nodesE, List.mem_cons, List.mem_append] at hq
    have up : ∀ x, NmOk x → ∀ q ∈ nodesE (1 + 1) x, q.2.ns.length ≤ 1000 ∧ (∀ o ∈ q.2.ops, o.2.length ≤ 1000) ∧ q.2.l.length ≤ 50 ∧ q.2.bs.length ≤ 50 := fun x hx => nodesE_snd (fun e => e.ns.length ≤ 1000 ∧ (∀ o ∈ e.ops, o.2.length ≤ 1000) ∧ e.l.length ≤ 50 ∧ e.bs.length ≤ 50) x 1 (1 + 1) hx
    rcases hq with rfl | hq | hq
    · exact h
    · obtain ⟨x, hx, hq⟩ := mem_of_nodesL hq
      exact up x (hp x (List.mem_append_left _ hx)) q hq
    · obtain ⟨x, hx, hq⟩ := mem_of_nodesL hq
      exact up x (hp x (List.mem_append_right _ hx)) q hq
theorem longP_len {ns : List (List UInt8)} (h : ¬ longP ns = true) : ns.length ≤ 50 := by
  unfold longP at h
  simp at h
  omega
mutual
theorem leftP_ok : ∀ (e : Ex) (nodes d : Int), evn e → 0 ≤ leftP e nodes d → NmOk e
  | .mk k n s t ns l ops bs, nodes, d, hv, h => by
    obtain ⟨v1, v2, v3⟩ := hv.parts
    rw [leftP] at h
    split at h
    · omega
    · rename_i hc
      have c0 : ¬ longP ns = true := fun h => hc (.inr (.inr (.inr (.inl h))))
      have c2 : ¬ 50 < l.length := fun h => hc (.inr (.inr (.inr (.inr (.inl h)))))
      have c3 : ¬ 50 < bs.length := fun h => hc (.inr (.inr (.inr (.inr (.inr h)))))
      have h1 : 0 ≤ leftL l (nodes - 1) (d - 1) := by
        by_cases h0 : leftL l (nodes - 1) (d - 1) < 0
        · rw [leftA_neg _ _ _ _ h0] at h; omega
        · omega
      have g1 := leftL_ok l (nodes - 1) (d - 1) v2 h1
      have g2 := leftA_ok ops bs (leftL l (nodes - 1) (d - 1)) (d - 1) v1 v3 h
      have c4 := longP_len c0
      refine NmOk.mk ⟨by show ns.length ≤ 1000; omega, fun o ho => ?_, by show l.length ≤ 50; omega, by show bs.length ≤ 50; omega⟩ fun x hx => ?_
      · have := g2.1 o ho; omega
      · rcases List.mem_append.1 (show x ∈ l ++ bs from hx) with hx | hx
        · exact g1 x hx
        · exact g2.2 x hx
theorem leftL_ok : ∀ (l : List Ex) (nodes d : Int), (∀ x ∈ l, evn x) → 0 ≤ leftL l nodes d → ∀ x ∈ l, NmOk x
  | [], nodes, d, _, _ => fun x hx => by simp at hx
  | e :: r, nodes, d, hv, h => by
    rw [leftL] at h
    split at h
    · omega
    · have h1 : 0 ≤ leftP e nodes d := by
        by_cases h0 : leftP e nodes d < 0
        · rw [leftL_neg _ _ _ h0] at h; omega
        · omega
      have g1 := leftP_ok e nodes d (hv e (by simp)) h1
      have g2 := leftL_ok r _ d (fun x hx => hv x (by simp [hx])) h
      intro x hx
      rcases List.mem_cons.1 hx with rfl | hx
      · exact g1
      · exact g2 x hx
theorem leftA_ok : ∀ (ops : List (Txt × List Txt)) (l : List Ex) (nodes d : Int), ops.length = l.length → (∀ x ∈ l, evn x) → 0 ≤ leftA ops l nodes d → (∀ o ∈ ops, o.2.length ≤ 50) ∧ ∀ x ∈ l, NmOk x
  | ops, [], nodes, d, hl, _, _ => by
    have : ops = [] := List.length_eq_zero_iff.1 (by rw [hl]; rfl)
    subst this
    exact ⟨fun o ho => by simp at ho, fun x hx => by simp at hx⟩
  | [], e :: r, nodes, d, hl, _, _ => by simp at hl
  | o :: q, e :: r, nodes, d, hl, hv, h => by
    rw [leftA] at h
    split at h
    · omega
    · split at h
      · omega
      · rename_i hc
        have c0 : ¬ longP o.2 = true := fun h => hc (.inr h)
        have c4 := longP_len c0
        have h1 : 0 ≤ leftP e nodes d := by
          by_cases h0 : leftP e nodes d < 0
          · rw [leftA_neg _ _ _ _ h0] at h; omega
          · omega
        have g1 := leftP_ok e nodes d (hv e (by simp)) h1
        have g2 := leftA_ok q r _ d (by simpa using hl) (fun x hx => hv x (by simp [hx])) h
        refine ⟨fun o' ho => ?_, fun x hx => ?_⟩
        · rcases List.mem_cons.1 ho with rfl | ho
          · exact c4
          · exact g2.1 o' ho
        · rcases List.mem_cons.1 hx with rfl | hx
          · exact g1
          · exact g2.2 x hx
end
theorem great_ok {e : Ex} (hv : evn e) (h : great e = false) : NmOk e := by
  unfold great at h
  exact leftP_ok e 4000 250 hv (by simpa using h)
end Go.Proofs.YtndgoefhhjcllaaGreatDoor
