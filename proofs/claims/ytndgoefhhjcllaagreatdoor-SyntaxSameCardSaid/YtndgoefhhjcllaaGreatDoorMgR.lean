/- Texts put together by program: Within LawSm. -/
import Derived.Test.YtndgoefhhjcllaaGreatDoorMgG
import Derived.Test.YtndgoefhhjcllaaGreatDoorMgP
import Derived.Test.YtndgoefhhjcllaaGreatDoorMgQ
import Derived.Test.YtndgoefhhjcllaaGreatDoorMgF
import Derived.Deep.RegionHeld3
/- A text within another. -/
namespace Go.Proofs.YtndgoefhhjcllaaGreatDoor
open Go.RowKit

set_option maxRecDepth 100000 in
set_option maxHeartbeats 2000000 in
theorem within_any (t u a b : Txt) (w : World) (h : t = a ++ (u ++ b)) (ht : t.length ≤ 1000000000) :
    Calls Tryz.prog 29 #[.string (strB t), .string (strB u)] w fun e w' => e = .returned (.bool true) ∧ w = w' := by
  have hlen : a.length + (u.length + b.length) = t.length := by rw [h, List.length_append, List.length_append]
  obtain ⟨T, hT⟩ : ∃ T, T = strB t := ⟨_, rfl⟩
  obtain ⟨U, hU⟩ : ∃ U, U = strB u := ⟨_, rfl⟩
  have hTs : T.size = t.length := by rw [hT, strB_size]
  have hUs : U.size = u.length := by rw [hU, strB_size]
  obtain ⟨nt, hnt⟩ : ∃ n, n = T.size := ⟨_, rfl⟩
  obtain ⟨nu, hnu⟩ : ∃ n, n = U.size := ⟨_, rfl⟩
  obtain ⟨na, hna⟩ : ∃ n, n = a.length := ⟨_, rfl⟩
  have b1 : na + nu ≤ nt := by omega
  have b2 : nt ≤ 1000000000 := by omega
  have b3 : T.size ≤ 1000000000 := by omega
  have b4 : na + U.size ≤ T.size := by omega
  have HH : Hid ((T.data.toList.drop na).take U.size = U.data.toList) := Lib.hid (by
    rw [hT, hU, data_strB, data_strB, h, hna, List.drop_left, strB_size, List.take_left])
  rw [← hT, ← hU]
  clear h hlen hT hU hTs hUs hnt hnu hna ht b1 b2
  go_enter Tryz.func29, Tryz.ntmps29
  go_wp2_with fail
  go_loopw [5] (fun i wr => ∃ k : Nat, k ≤ na ∧ i = .int .i64 (k : Int) ∧ Hid (wr = w)) (fun i _ => na - (intOf i).toNat)
  case atStart => exact ⟨0, Nat.zero_le _, rfl, Lib.hid rfl⟩
  case round =>
    obtain ⟨k, hk, rfl, hw⟩ := hrel
    obtain rfl := hw.out
    have i0 : (0 : Int) ≤ (k : Int) := by omega
    have i1 : (k : Int) + (U.size : Int) ≤ (T.size : Int) := by omega
    have i2 : k + U.size ≤ T.size := by omega
    obtain ⟨q, hq⟩ : ∃ q, q = ((T.extract k (k + U.size)).toList == U.toList) := ⟨_, rfl⟩
    cases q
    · have hcm : ((T.extract k (k + U.size)).toList == U.toList) = false := hq.symm
      have HK : Hid (k ≠ na) := Lib.hid (fun e => by
        subst e
        have h1 : (T.extract k (k + U.size)).toList = U.toList := by
          rw [ByteArray.toList_eq, ByteArray.toList_eq, ← HH.out]
          simp [ByteArray.data_extract, Array.toList_extract, List.extract]
        rw [h1] at hcm
        simp at hcm)
      clear hq hw
      go_wp2_with fail
      go_roundw
      case rel => exact ⟨k + 1, by have := HK.out; omega, by go_num, by first | exact Lib.hid rfl | exact Lib.hid trivial⟩
      case measure => simp [intOf]; have := HK.out; omega
    · have hcm : ((T.extract k (k + U.size)).toList == U.toList) = true := hq.symm
      clear hq hw
      go_wp2_with fail
      go_ret
      exact ⟨rfl, rfl⟩
end Go.Proofs.YtndgoefhhjcllaaGreatDoor
/- SyntaxSame: Same and SameType answer as the reference does. -/
namespace Go.Proofs.YtndgoefhhjcllaaGreatDoor
open Go.RowKit

set_option maxRecDepth 100000 in
set_option maxHeartbeats 8000000 in
theorem same_law (a b : Ex) (t u : Ty) (k1 n1 : Int) (s1 t1 : ByteArray) (A1 : Option Addr) (p1 c1 : Nat) (B1 : Option Addr) (q1 d1 : Nat) (C1 : Option Addr) (r1 e1 : Nat) (k2 n2 : Int) (s2 t2 : ByteArray) (A2 : Option Addr) (p2 c2 : Nat) (B2 : Option Addr) (q2 d2 : Nat) (C2 : Option Addr) (r2 e2 : Nat) (k3 n3 : Int) (s3 : ByteArray) (A3 : Option Addr) (p3 c3 : Nat) (B3 : Option Addr) (q3 d3 : Nat) (t3 : Int) (k4 n4 : Int) (s4 : ByteArray) (A4 : Option Addr) (p4 c4 : Nat) (B4 : Option Addr) (q4 d4 : Nat) (t4 : Int) (w : World)
    (h1 : RepE (fun _ => True) w a [.int .i64 k1, .int .i64 n1, .string s1, .string t1, .slice A1 p1 c1, .slice B1 q1 d1, .slice C1 r1 e1])
    (h2 : RepE (fun _ => True) w b [.int .i64 k2, .int .i64 n2, .string s2, .string t2, .slice A2 p2 c2, .slice B2 q2 d2, .slice C2 r2 e2])
    (h3 : RepT (fun _ => True) w t [.int .i64 k3, .int .i64 n3, .string s3, .slice A3 p3 c3, .slice B3 q3 d3, .int .i64 t3])
    (h4 : RepT (fun _ => True) w u [.int .i64 k4, .int .i64 n4, .string s4, .slice A4 p4 c4, .slice B4 q4 d4, .int .i64 t4])
    (hEn : EnvS w) :
    Calls Tryz.prog 5 #[.agg #[.int .i64 k1, .int .i64 n1, .string s1, .string t1, .slice A1 p1 c1, .slice B1 q1 d1, .slice C1 r1 e1], .agg #[.int .i64 k2, .int .i64 n2, .string s2, .string t2, .slice A2 p2 c2, .slice B2 q2 d2, .slice C2 r2 e2], .agg #[.int .i64 k3, .int .i64 n3, .string s3, .slice A3 p3 c3, .slice B3 q3 d3, .int .i64 t3], .agg #[.int .i64 k4, .int .i64 n4, .string s4, .slice A4 p4 c4, .slice B4 q4 d4, .int .i64 t4]] w fun r w' => r = .returned (.bool true) ∧ Below w.heap.size w w' := by
  obtain ⟨w1, hW1⟩ : ∃ W1, ((((w.alloc (.cells #[.int .i64 k1, .int .i64 n1, .string s1, .string t1, .slice A1 p1 c1, .slice B1 q1 d1, .slice C1 r1 e1] 27)).alloc (.cells #[.int .i64 k2, .int .i64 n2, .string s2, .string t2, .slice A2 p2 c2, .slice B2 q2 d2, .slice C2 r2 e2] 27)).alloc (.cells #[.int .i64 k3, .int .i64 n3, .string s3, .slice A3 p3 c3, .slice B3 q3 d3, .int .i64 t3] 41)).alloc (.cells #[.int .i64 k4, .int .i64 n4, .string s4, .slice A4 p4 c4, .slice B4 q4 d4, .int .i64 t4] 41)) = W1 := ⟨_, rfl⟩
  have HB1 : Hid (Below w.heap.size w w1) := Lib.hid (by rw [← hW1]; exact ((((Below.refl _ _).alloc (Nat.le_refl _) _).alloc (by simp) _).alloc (by simp; omega) _).alloc (by simp; omega) _)
  have HE1 : Hid (EB w1 w.heap.size (.int .i64 k1) (.int .i64 n1) (.string s1) (.string t1) (.slice A1 p1 c1) (.slice B1 q1 d1) (.slice C1 r1 e1)) := Lib.hid (by rw [← hW1]; have := EB.new w (.int .i64 k1) (.int .i64 n1) (.string s1) (.string t1) (.slice A1 p1 c1) (.slice B1 q1 d1) (.slice C1 r1 e1); exact (((this.kept (World.grownBy_alloc _ _ none) (by simp)).kept (World.grownBy_alloc _ _ none) (by simp)).kept (World.grownBy_alloc _ _ none) (by simp)))
  have HE2 : Hid (EB w1 (w.heap.size + 1) (.int .i64 k2) (.int .i64 n2) (.string s2) (.string t2) (.slice A2 p2 c2) (.slice B2 q2 d2) (.slice C2 r2 e2)) := Lib.hid (by rw [← hW1]; have := EB.new (w.alloc (.cells #[.int .i64 k1, .int .i64 n1, .string s1, .string t1, .slice A1 p1 c1, .slice B1 q1 d1, .slice C1 r1 e1] 27)) (.int .i64 k2) (.int .i64 n2) (.string s2) (.string t2) (.slice A2 p2 c2) (.slice B2 q2 d2) (.slice C2 r2 e2); simp only [World.size_alloc] at this; exact ((this.kept (World.grownBy_alloc _ _ none) (by simp)).kept (World.grownBy_alloc _ _ none) (by simp)))
  have HE3 : Hid (TyBx w1 (w.heap.size + 1 + 1) (.int .i64 k3) (.int .i64 n3) (.string s3) (.slice A3 p3 c3) (.slice B3 q3 d3) (.int .i64 t3)) := Lib.hid (by rw [← hW1]; have := TyBx.new ((w.alloc (.cells #[.int .i64 k1, .int .i64 n1, .string s1, .string t1, .slice A1 p1 c1, .slice B1 q1 d1, .slice C1 r1 e1] 27)).alloc (.cells #[.int .i64 k2, .int .i64 n2, .string s2, .string t2, .slice A2 p2 c2, .slice B2 q2 d2, .slice C2 r2 e2] 27)) (.int .i64 k3) (.int .i64 n3) (.string s3) (.slice A3 p3 c3) (.slice B3 q3 d3) (.int .i64 t3); simp only [World.size_alloc] at this; exact (this.kept (World.grownBy_alloc _ _ none) (by simp)))
  have HE4 : Hid (TyBx w1 (w.heap.size + 1 + 1 + 1) (.int .i64 k4) (.int .i64 n4) (.string s4) (.slice A4 p4 c4) (.slice B4 q4 d4) (.int .i64 t4)) := Lib.hid (by rw [← hW1]; have := TyBx.new (((w.alloc (.cells #[.int .i64 k1, .int .i64 n1, .string s1, .string t1, .slice A1 p1 c1, .slice B1 q1 d1, .slice C1 r1 e1] 27)).alloc (.cells #[.int .i64 k2, .int .i64 n2, .string s2, .string t2, .slice A2 p2 c2, .slice B2 q2 d2, .slice C2 r2 e2] 27)).alloc (.cells #[.int .i64 k3, .int .i64 n3, .string s3, .slice A3 p3 c3, .slice B3 q3 d3, .int .i64 t3] 41)) (.int .i64 k4) (.int .i64 n4) (.string s4) (.slice A4 p4 c4) (.slice B4 q4 d4) (.int .i64 t4); simp only [World.size_alloc] at this; exact this)
  have HR1 := Lib.hid h1
  have HR2 := Lib.hid h2
  have HR3 := Lib.hid h3
  have HR4 := Lib.hid h4
  have HEv1 := Lib.hid (RepE.evn a ⟨_, h1⟩)
  have HEv2 := Lib.hid (RepE.evn b ⟨_, h2⟩)
  have HEn := Lib.hid hEn
  have HG1 := Lib.hid (fun w' (hb : Below w.heap.size w w') => Great_any (fun _ => True) a (.int .i64 k1) (.int .i64 n1) (.string s1) (.string t1) (.slice A1 p1 c1) (.slice B1 q1 d1) (.slice C1 r1 e1) w' (HR1.out.keep (Same.of_below hb)))
  obtain ⟨G1, hG1⟩ : ∃ G, G = great a := ⟨_, rfl⟩
  rw [← hG1] at HG1
  have HG2 := Lib.hid (fun w' (hb : Below w.heap.size w w') => Great_any (fun _ => True) b (.int .i64 k2) (.int .i64 n2) (.string s2) (.string t2) (.slice A2 p2 c2) (.slice B2 q2 d2) (.slice C2 r2 e2) w' (HR2.out.keep (Same.of_below hb)))
  obtain ⟨G2, hG2⟩ : ∃ G, G = great b := ⟨_, rfl⟩
  rw [← hG2] at HG2
  have HG3 := Lib.hid (fun w' (hb : Below w.heap.size w w') => GreatType_any t (.int .i64 k3) (.int .i64 n3) (.string s3) (.slice A3 p3 c3) (.slice B3 q3 d3) (.int .i64 t3) w' (HR3.out.keep (Same.of_below hb)))
  obtain ⟨G3, hG3⟩ : ∃ G, G = greatT t := ⟨_, rfl⟩
  rw [← hG3] at HG3
  have HG4 := Lib.hid (fun w' (hb : Below w.heap.size w w') => GreatType_any u (.int .i64 k4) (.int .i64 n4) (.string s4) (.slice A4 p4 c4) (.slice B4 q4 d4) (.int .i64 t4) w' (HR4.out.keep (Same.of_below hb)))
  obtain ⟨G4, hG4⟩ : ∃ G, G = greatT u := ⟨_, rfl⟩
  rw [← hG4] at HG4
  have x10 := HE1.out.c0
  have x11 := HE1.out.c1
  have x12 := HE1.out.c2
  have x13 := HE1.out.c3
  have x14 := HE1.out.c4
  have x15 := HE1.out.c5
  have x16 := HE1.out.c6
  have x20 := HE2.out.c0
  have x21 := HE2.out.c1
  have x22 := HE2.out.c2
  have x23 := HE2.out.c3
  have x24 := HE2.out.c4
  have x25 := HE2.out.c5
  have x26 := HE2.out.c6
  obtain ⟨x30, x31, x32, x33, x34, x35⟩ := HE3.out.c
  obtain ⟨x40, x41, x42, x43, x44, x45⟩ := HE4.out.c
  clear h1 h2 h3 h4 hEn
  cases G1 with
  | true =>
    clear hG1 hG2 hG3 hG4
    go_enter Tryz.func5, Tryz.ntmps5
    go_wp2_with fail
    clear hW1
    refine (HG1.out w1 HB1.out).mono ?_
    rintro r w2 ⟨rfl, hb⟩
    have HB2 := Lib.hid (HB1.out.trans (hb.mono HB1.out.size))
    clear hb x10 x11 x12 x13 x14 x15 x16 x20 x21 x22 x23 x24 x25 x26 x30 x31 x32 x33 x34 x35 x40 x41 x42 x43 x44 x45
    go_wp2_with fail
    refine (shows_any w2 (HEn.out.below HB2.out)).mono ?_
    rintro r w3 ⟨rfl, hb⟩
    have HB3 := Lib.hid (HB2.out.trans (hb.mono HB2.out.size))
    clear hb
    go_wp2_with fail
    go_ret
    exact ⟨rfl, HB3.out⟩
  | false =>
    cases G2 with
    | true =>
      clear hG1 hG2 hG3 hG4
      go_enter Tryz.func5, Tryz.ntmps5
      go_wp2_with fail
      clear hW1
      refine (HG1.out w1 HB1.out).mono ?_
      rintro r w2 ⟨rfl, hb⟩
      have HB2 := Lib.hid (HB1.out.trans (hb.mono HB1.out.size))
      have HE1_2 := Lib.hid (HE1.out.kept (grown_below hb none) (by simp))
      have HE2_2 := Lib.hid (HE2.out.kept (grown_below hb none) (by simp))
      have HE3_2 := Lib.hid (HE3.out.kept (grown_below hb none) (by simp))
      have HE4_2 := Lib.hid (HE4.out.kept (grown_below hb none) (by simp))
      clear hb x10 x11 x12 x13 x14 x15 x16 x20 x21 x22 x23 x24 x25 x26 x30 x31 x32 x33 x34 x35 x40 x41 x42 x43 x44 x45
      have x10 := HE1_2.out.c0
      have x11 := HE1_2.out.c1
      have x12 := HE1_2.out.c2
      have x13 := HE1_2.out.c3
      have x14 := HE1_2.out.c4
      have x15 := HE1_2.out.c5
      have x16 := HE1_2.out.c6
      have x20 := HE2_2.out.c0
      have x21 := HE2_2.out.c1
      have x22 := HE2_2.out.c2
      have x23 := HE2_2.out.c3
      have x24 := HE2_2.out.c4
      have x25 := HE2_2.out.c5
      have x26 := HE2_2.out.c6
      obtain ⟨x30, x31, x32, x33, x34, x35⟩ := HE3_2.out.c
      obtain ⟨x40, x41, x42, x43, x44, x45⟩ := HE4_2.out.c
      go_wp2_with fail
      refine (HG2.out w2 HB2.out).mono ?_
      rintro r w3 ⟨rfl, hb⟩
      have HB3 := Lib.hid (HB2.out.trans (hb.mono HB2.out.size))
      clear hb x10 x11 x12 x13 x14 x15 x16 x20 x21 x22 x23 x24 x25 x26 x30 x31 x32 x33 x34 x35 x40 x41 x42 x43 x44 x45
      go_wp2_with fail
      refine (shows_any w3 (HEn.out.below HB3.out)).mono ?_
      rintro r w4 ⟨rfl, hb⟩
      have HB4 := Lib.hid (HB3.out.trans (hb.mono HB3.out.size))
      clear hb
      go_wp2_with fail
      go_ret
      exact ⟨rfl, HB4.out⟩
    | false =>
      cases G3 with
      | true =>
        clear hG1 hG2 hG3 hG4
        go_enter Tryz.func5, Tryz.ntmps5
        go_wp2_with fail
        clear hW1
        refine (HG1.out w1 HB1.out).mono ?_
        rintro r w2 ⟨rfl, hb⟩
        have HB2 := Lib.hid (HB1.out.trans (hb.mono HB1.out.size))
        have HE1_2 := Lib.hid (HE1.out.kept (grown_below hb none) (by simp))
        have HE2_2 := Lib.hid (HE2.out.kept (grown_below hb none) (by simp))
        have HE3_2 := Lib.hid (HE3.out.kept (grown_below hb none) (by simp))
        have HE4_2 := Lib.hid (HE4.out.kept (grown_below hb none) (by simp))
        clear hb x10 x11 x12 x13 x14 x15 x16 x20 x21 x22 x23 x24 x25 x26 x30 x31 x32 x33 x34 x35 x40 x41 x42 x43 x44 x45
        have x10 := HE1_2.out.c0
        have x11 := HE1_2.out.c1
        have x12 := HE1_2.out.c2
        have x13 := HE1_2.out.c3
        have x14 := HE1_2.out.c4
        have x15 := HE1_2.out.c5
        have x16 := HE1_2.out.c6
        have x20 := HE2_2.out.c0
        have x21 := HE2_2.out.c1
        have x22 := HE2_2.out.c2
        have x23 := HE2_2.out.c3
        have x24 := HE2_2.out.c4
        have x25 := HE2_2.out.c5
        have x26 := HE2_2.out.c6
        obtain ⟨x30, x31, x32, x33, x34, x35⟩ := HE3_2.out.c
        obtain ⟨x40, x41, x42, x43, x44, x45⟩ := HE4_2.out.c
        go_wp2_with fail
        refine (HG2.out w2 HB2.out).mono ?_
        rintro r w3 ⟨rfl, hb⟩
        have HB3 := Lib.hid (HB2.out.trans (hb.mono HB2.out.size))
        have HE1_3 := Lib.hid (HE1_2.out.kept (grown_below hb none) (by simp))
        have HE2_3 := Lib.hid (HE2_2.out.kept (grown_below hb none) (by simp))
        have HE3_3 := Lib.hid (HE3_2.out.kept (grown_below hb none) (by simp))
        have HE4_3 := Lib.hid (HE4_2.out.kept (grown_below hb none) (by simp))
        clear hb x10 x11 x12 x13 x14 x15 x16 x20 x21 x22 x23 x24 x25 x26 x30 x31 x32 x33 x34 x35 x40 x41 x42 x43 x44 x45
        have x10 := HE1_3.out.c0
        have x11 := HE1_3.out.c1
        have x12 := HE1_3.out.c2
        have x13 := HE1_3.out.c3
        have x14 := HE1_3.out.c4
        have x15 := HE1_3.out.c5
        have x16 := HE1_3.out.c6
        have x20 := HE2_3.out.c0
        have x21 := HE2_3.out.c1
        have x22 := HE2_3.out.c2
        have x23 := HE2_3.out.c3
        have x24 := HE2_3.out.c4
        have x25 := HE2_3.out.c5
        have x26 := HE2_3.out.c6
        obtain ⟨x30, x31, x32, x33, x34, x35⟩ := HE3_3.out.c
        obtain ⟨x40, x41, x42, x43, x44, x45⟩ := HE4_3.out.c
        go_wp2_with fail
        refine (HG3.out w3 HB3.out).mono ?_
        rintro r w4 ⟨rfl, hb⟩
        have HB4 := Lib.hid (HB3.out.trans (hb.mono HB3.out.size))
        clear hb x10 x11 x12 x13 x14 x15 x16 x20 x21 x22 x23 x24 x25 x26 x30 x31 x32 x33 x34 x35 x40 x41 x42 x43 x44 x45
        go_wp2_with fail
        refine (shows_any w4 (HEn.out.below HB4.out)).mono ?_
        rintro r w5 ⟨rfl, hb⟩
        have HB5 := Lib.hid (HB4.out.trans (hb.mono HB4.out.size))
        clear hb
        go_wp2_with fail
        go_ret
        exact ⟨rfl, HB5.out⟩
      | false =>
        cases G4 with
        | true =>
          clear hG1 hG2 hG3 hG4
          go_enter Tryz.func5, Tryz.ntmps5
          go_wp2_with fail
          clear hW1
          refine (HG1.out w1 HB1.out).mono ?_
          rintro r w2 ⟨rfl, hb⟩
          have HB2 := Lib.hid (HB1.out.trans (hb.mono HB1.out.size))
          have HE1_2 := Lib.hid (HE1.out.kept (grown_below hb none) (by simp))
          have HE2_2 := Lib.hid (HE2.out.kept (grown_below hb none) (by simp))
          have HE3_2 := Lib.hid (HE3.out.kept (grown_below hb none) (by simp))
          have HE4_2 := Lib.hid (HE4.out.kept (grown_below hb none) (by simp))
          clear hb x10 x11 x12 x13 x14 x15 x16 x20 x21 x22 x23 x24 x25 x26 x30 x31 x32 x33 x34 x35 x40 x41 x42 x43 x44 x45
          have x10 := HE1_2.out.c0
          have x11 := HE1_2.out.c1
          have x12 := HE1_2.out.c2
          have x13 := HE1_2.out.c3
          have x14 := HE1_2.out.c4
          have x15 := HE1_2.out.c5
          have x16 := HE1_2.out.c6
          have x20 := HE2_2.out.c0
          have x21 := HE2_2.out.c1
          have x22 := HE2_2.out.c2
          have x23 := HE2_2.out.c3
          have x24 := HE2_2.out.c4
          have x25 := HE2_2.out.c5
          have x26 := HE2_2.out.c6
          obtain ⟨x30, x31, x32, x33, x34, x35⟩ := HE3_2.out.c
          obtain ⟨x40, x41, x42, x43, x44, x45⟩ := HE4_2.out.c
          go_wp2_with fail
          refine (HG2.out w2 HB2.out).mono ?_
          rintro r w3 ⟨rfl, hb⟩
          have HB3 := Lib.hid (HB2.out.trans (hb.mono HB2.out.size))
          have HE1_3 := Lib.hid (HE1_2.out.kept (grown_below hb none) (by simp))
          have HE2_3 := Lib.hid (HE2_2.out.kept (grown_below hb none) (by simp))
          have HE3_3 := Lib.hid (HE3_2.out.kept (grown_below hb none) (by simp))
          have HE4_3 := Lib.hid (HE4_2.out.kept (grown_below hb none) (by simp))
          clear hb x10 x11 x12 x13 x14 x15 x16 x20 x21 x22 x23 x24 x25 x26 x30 x31 x32 x33 x34 x35 x40 x41 x42 x43 x44 x45
          have x10 := HE1_3.out.c0
          have x11 := HE1_3.out.c1
          have x12 := HE1_3.out.c2
          have x13 := HE1_3.out.c3
          have x14 := HE1_3.out.c4
          have x15 := HE1_3.out.c5
          have x16 := HE1_3.out.c6
          have x20 := HE2_3.out.c0
          have x21 := HE2_3.out.c1
          have x22 := HE2_3.out.c2
          have x23 := HE2_3.out.c3
          have x24 := HE2_3.out.c4
          have x25 := HE2_3.out.c5
          have x26 := HE2_3.out.c6
          obtain ⟨x30, x31, x32, x33, x34, x35⟩ := HE3_3.out.c
          obtain ⟨x40, x41, x42, x43, x44, x45⟩ := HE4_3.out.c
          go_wp2_with fail
          refine (HG3.out w3 HB3.out).mono ?_
          rintro r w4 ⟨rfl, hb⟩
          have HB4 := Lib.hid (HB3.out.trans (hb.mono HB3.out.size))
          have HE1_4 := Lib.hid (HE1_3.out.kept (grown_below hb none) (by simp))
          have HE2_4 := Lib.hid (HE2_3.out.kept (grown_below hb none) (by simp))
          have HE3_4 := Lib.hid (HE3_3.out.kept (grown_below hb none) (by simp))
          have HE4_4 := Lib.hid (HE4_3.out.kept (grown_below hb none) (by simp))
          clear hb x10 x11 x12 x13 x14 x15 x16 x20 x21 x22 x23 x24 x25 x26 x30 x31 x32 x33 x34 x35 x40 x41 x42 x43 x44 x45
          have x10 := HE1_4.out.c0
          have x11 := HE1_4.out.c1
          have x12 := HE1_4.out.c2
          have x13 := HE1_4.out.c3
          have x14 := HE1_4.out.c4
          have x15 := HE1_4.out.c5
          have x16 := HE1_4.out.c6
          have x20 := HE2_4.out.c0
          have x21 := HE2_4.out.c1
          have x22 := HE2_4.out.c2
          have x23 := HE2_4.out.c3
          have x24 := HE2_4.out.c4
          have x25 := HE2_4.out.c5
          have x26 := HE2_4.out.c6
          obtain ⟨x30, x31, x32, x33, x34, x35⟩ := HE3_4.out.c
          obtain ⟨x40, x41, x42, x43, x44, x45⟩ := HE4_4.out.c
          go_wp2_with fail
          refine (HG4.out w4 HB4.out).mono ?_
          rintro r w5 ⟨rfl, hb⟩
          have HB5 := Lib.hid (HB4.out.trans (hb.mono HB4.out.size))
          clear hb x10 x11 x12 x13 x14 x15 x16 x20 x21 x22 x23 x24 x25 x26 x30 x31 x32 x33 x34 x35 x40 x41 x42 x43 x44 x45
          go_wp2_with fail
          refine (shows_any w5 (HEn.out.below HB5.out)).mono ?_
          rintro r w6 ⟨rfl, hb⟩
          have HB6 := Lib.hid (HB5.out.trans (hb.mono HB5.out.size))
          clear hb
          go_wp2_with fail
          go_ret
          exact ⟨rfl, HB6.out⟩
        | false =>
          have hd1 : hE a ≤ 65536 := by have := great_hE HEv1.out hG1.symm; omega
          have hd3 : hT t ≤ 65536 := by have := greatT_hT hG3.symm; omega
          obtain ⟨V, hV⟩ : ∃ V, V = sameE a b := ⟨_, rfl⟩
          obtain ⟨U, hU⟩ : ∃ V, V = sameT t u := ⟨_, rfl⟩
          have HS : Hid (∀ w', Below w.heap.size w w' → Calls Tryz.prog 23 #[.agg #[.int .i64 k1, .int .i64 n1, .string s1, .string t1, .slice A1 p1 c1, .slice B1 q1 d1, .slice C1 r1 e1], .agg #[.int .i64 k2, .int .i64 n2, .string s2, .string t2, .slice A2 p2 c2, .slice B2 q2 d2, .slice C2 r2 e2]] w' fun r w2 => r = .returned (.bool V) ∧ Below w'.heap.size w' w2) := Lib.hid (fun w' hb => by
            rw [hV]; exact Same_any a b _ _ _ _ _ _ _ _ _ _ _ _ _ _ w' (HR1.out.keep (Same.of_below hb)) (HR2.out.keep (Same.of_below hb)) hd1)
          have HRS : Hid (∀ w', Below w.heap.size w w' → Calls Tryz.prog 24 #[.agg #[.int .i64 k1, .int .i64 n1, .string s1, .string t1, .slice A1 p1 c1, .slice B1 q1 d1, .slice C1 r1 e1], .agg #[.int .i64 k2, .int .i64 n2, .string s2, .string t2, .slice A2 p2 c2, .slice B2 q2 d2, .slice C2 r2 e2]] w' fun r w2 => r = .returned (.bool V) ∧ Below w'.heap.size w' w2) := Lib.hid (fun w' hb => by
            rw [hV]; exact rSame_any a b _ _ w' (HR1.out.keep (Same.of_below hb)) (HR2.out.keep (Same.of_below hb)))
          have HT : Hid (∀ w', Below w.heap.size w w' → Calls Tryz.prog 25 #[.agg #[.int .i64 k3, .int .i64 n3, .string s3, .slice A3 p3 c3, .slice B3 q3 d3, .int .i64 t3], .agg #[.int .i64 k4, .int .i64 n4, .string s4, .slice A4 p4 c4, .slice B4 q4 d4, .int .i64 t4]] w' fun r w2 => r = .returned (.bool U) ∧ Below w'.heap.size w' w2) := Lib.hid (fun w' hb => by
            rw [hU]; exact SameType_any t u _ _ _ _ _ _ _ _ _ _ _ _ w' (HR3.out.keep (Same.of_below hb)) (HR4.out.keep (Same.of_below hb)) hd3)
          have HRT : Hid (∀ w', Below w.heap.size w w' → Calls Tryz.prog 26 #[.agg #[.int .i64 k3, .int .i64 n3, .string s3, .slice A3 p3 c3, .slice B3 q3 d3, .int .i64 t3], .agg #[.int .i64 k4, .int .i64 n4, .string s4, .slice A4 p4 c4, .slice B4 q4 d4, .int .i64 t4]] w' fun r w2 => r = .returned (.bool U) ∧ Below w'.heap.size w' w2) := Lib.hid (fun w' hb => by
            rw [hU]; exact rSameType_any t u _ _ w' (HR3.out.keep (Same.of_below hb)) (HR4.out.keep (Same.of_below hb)))
          have HSS : Hid (∀ w', Below w.heap.size w w' → Calls Tryz.prog 23 #[.agg #[.int .i64 k1, .int .i64 n1, .string s1, .string t1, .slice A1 p1 c1, .slice B1 q1 d1, .slice C1 r1 e1], .agg #[.int .i64 k1, .int .i64 n1, .string s1, .string t1, .slice A1 p1 c1, .slice B1 q1 d1, .slice C1 r1 e1]] w' fun r w2 => r = .returned (.bool true) ∧ Below w'.heap.size w' w2) := Lib.hid (fun w' hb => by
            have := Same_any a a _ _ _ _ _ _ _ _ _ _ _ _ _ _ w' (HR1.out.keep (Same.of_below hb)) (HR1.out.keep (Same.of_below hb)) hd1; rwa [sameE_self a HEv1.out] at this)
          clear hV hU hd1 hd3 hG1 hG2 hG3 hG4
          go_enter Tryz.func5, Tryz.ntmps5
          go_wp2_with fail
          clear hW1
          refine (HG1.out w1 HB1.out).mono ?_
          rintro r w2 ⟨rfl, hb⟩
          have HB2 := Lib.hid (HB1.out.trans (hb.mono HB1.out.size))
          have HE1_2 := Lib.hid (HE1.out.kept (grown_below hb none) (by simp))
          have HE2_2 := Lib.hid (HE2.out.kept (grown_below hb none) (by simp))
          have HE3_2 := Lib.hid (HE3.out.kept (grown_below hb none) (by simp))
          have HE4_2 := Lib.hid (HE4.out.kept (grown_below hb none) (by simp))
          clear hb x10 x11 x12 x13 x14 x15 x16 x20 x21 x22 x23 x24 x25 x26 x30 x31 x32 x33 x34 x35 x40 x41 x42 x43 x44 x45
          have x10 := HE1_2.out.c0
          have x11 := HE1_2.out.c1
          have x12 := HE1_2.out.c2
          have x13 := HE1_2.out.c3
          have x14 := HE1_2.out.c4
          have x15 := HE1_2.out.c5
          have x16 := HE1_2.out.c6
          have x20 := HE2_2.out.c0
          have x21 := HE2_2.out.c1
          have x22 := HE2_2.out.c2
          have x23 := HE2_2.out.c3
          have x24 := HE2_2.out.c4
          have x25 := HE2_2.out.c5
          have x26 := HE2_2.out.c6
          obtain ⟨x30, x31, x32, x33, x34, x35⟩ := HE3_2.out.c
          obtain ⟨x40, x41, x42, x43, x44, x45⟩ := HE4_2.out.c
          go_wp2_with fail
          refine (HG2.out w2 HB2.out).mono ?_
          rintro r w3 ⟨rfl, hb⟩
          have HB3 := Lib.hid (HB2.out.trans (hb.mono HB2.out.size))
          have HE1_3 := Lib.hid (HE1_2.out.kept (grown_below hb none) (by simp))
          have HE2_3 := Lib.hid (HE2_2.out.kept (grown_below hb none) (by simp))
          have HE3_3 := Lib.hid (HE3_2.out.kept (grown_below hb none) (by simp))
          have HE4_3 := Lib.hid (HE4_2.out.kept (grown_below hb none) (by simp))
          clear hb x10 x11 x12 x13 x14 x15 x16 x20 x21 x22 x23 x24 x25 x26 x30 x31 x32 x33 x34 x35 x40 x41 x42 x43 x44 x45
          have x10 := HE1_3.out.c0
          have x11 := HE1_3.out.c1
          have x12 := HE1_3.out.c2
          have x13 := HE1_3.out.c3
          have x14 := HE1_3.out.c4
          have x15 := HE1_3.out.c5
          have x16 := HE1_3.out.c6
          have x20 := HE2_3.out.c0
          have x21 := HE2_3.out.c1
          have x22 := HE2_3.out.c2
          have x23 := HE2_3.out.c3
          have x24 := HE2_3.out.c4
          have x25 := HE2_3.out.c5
          have x26 := HE2_3.out.c6
          obtain ⟨x30, x31, x32, x33, x34, x35⟩ := HE3_3.out.c
          obtain ⟨x40, x41, x42, x43, x44, x45⟩ := HE4_3.out.c
          go_wp2_with fail
          refine (HG3.out w3 HB3.out).mono ?_
          rintro r w4 ⟨rfl, hb⟩
          have HB4 := Lib.hid (HB3.out.trans (hb.mono HB3.out.size))
          have HE1_4 := Lib.hid (HE1_3.out.kept (grown_below hb none) (by simp))
          have HE2_4 := Lib.hid (HE2_3.out.kept (grown_below hb none) (by simp))
          have HE3_4 := Lib.hid (HE3_3.out.kept (grown_below hb none) (by simp))
          have HE4_4 := Lib.hid (HE4_3.out.kept (grown_below hb none) (by simp))
          clear hb x10 x11 x12 x13 x14 x15 x16 x20 x21 x22 x23 x24 x25 x26 x30 x31 x32 x33 x34 x35 x40 x41 x42 x43 x44 x45
          have x10 := HE1_4.out.c0
          have x11 := HE1_4.out.c1
          have x12 := HE1_4.out.c2
          have x13 := HE1_4.out.c3
          have x14 := HE1_4.out.c4
          have x15 := HE1_4.out.c5
          have x16 := HE1_4.out.c6
          have x20 := HE2_4.out.c0
          have x21 := HE2_4.out.c1
          have x22 := HE2_4.out.c2
          have x23 := HE2_4.out.c3
          have x24 := HE2_4.out.c4
          have x25 := HE2_4.out.c5
          have x26 := HE2_4.out.c6
          obtain ⟨x30, x31, x32, x33, x34, x35⟩ := HE3_4.out.c
          obtain ⟨x40, x41, x42, x43, x44, x45⟩ := HE4_4.out.c
          go_wp2_with fail
          refine (HG4.out w4 HB4.out).mono ?_
          rintro r w5 ⟨rfl, hb⟩
          have HB5 := Lib.hid (HB4.out.trans (hb.mono HB4.out.size))
          have HE1_5 := Lib.hid (HE1_4.out.kept (grown_below hb none) (by simp))
          have HE2_5 := Lib.hid (HE2_4.out.kept (grown_below hb none) (by simp))
          have HE3_5 := Lib.hid (HE3_4.out.kept (grown_below hb none) (by simp))
          have HE4_5 := Lib.hid (HE4_4.out.kept (grown_below hb none) (by simp))
          clear hb x10 x11 x12 x13 x14 x15 x16 x20 x21 x22 x23 x24 x25 x26 x30 x31 x32 x33 x34 x35 x40 x41 x42 x43 x44 x45
          have x10 := HE1_5.out.c0
          have x11 := HE1_5.out.c1
          have x12 := HE1_5.out.c2
          have x13 := HE1_5.out.c3
          have x14 := HE1_5.out.c4
          have x15 := HE1_5.out.c5
          have x16 := HE1_5.out.c6
          have x20 := HE2_5.out.c0
          have x21 := HE2_5.out.c1
          have x22 := HE2_5.out.c2
          have x23 := HE2_5.out.c3
          have x24 := HE2_5.out.c4
          have x25 := HE2_5.out.c5
          have x26 := HE2_5.out.c6
          obtain ⟨x30, x31, x32, x33, x34, x35⟩ := HE3_5.out.c
          obtain ⟨x40, x41, x42, x43, x44, x45⟩ := HE4_5.out.c
          go_wp2_with fail
          have hs0 : PtS w5 w5 := Below.refl _ _
          have b1 : (V == V) = true := by simp
          have b2 : (U == U) = true := by simp
          have hz1 : w.heap.size < w5.heap.size := HE1_5.out.lt
          have hz2 : (w.heap.size + 1) < w5.heap.size := HE2_5.out.lt
          have hz3 : (w.heap.size + 1 + 1) < w5.heap.size := HE3_5.out.lt
          have hz4 : (w.heap.size + 1 + 1 + 1) < w5.heap.size := HE4_5.out.lt
          have HP : Hid (∀ w', PtS w5 w' → Below w.heap.size w w') := Lib.hid (fun w' h => HB5.out.trans (Below.mono (show Below w5.heap.size w5 w' from h) HB5.out.size))
          have HAll := Lib.hid (fun w' (h : PtS w5 w') => And.intro (PtS.keep h hz1 x10) (And.intro (PtS.keep h hz1 x11) (And.intro (PtS.keep h hz1 x12) (And.intro (PtS.keep h hz1 x13) (And.intro (PtS.keep h hz1 x14) (And.intro (PtS.keep h hz1 x15) (And.intro (PtS.keep h hz1 x16) (And.intro (PtS.keep h hz2 x20) (And.intro (PtS.keep h hz2 x21) (And.intro (PtS.keep h hz2 x22) (And.intro (PtS.keep h hz2 x23) (And.intro (PtS.keep h hz2 x24) (And.intro (PtS.keep h hz2 x25) (And.intro (PtS.keep h hz2 x26) (And.intro (PtS.keep h hz3 x30) (And.intro (PtS.keep h hz3 x31) (And.intro (PtS.keep h hz3 x32) (And.intro (PtS.keep h hz3 x33) (And.intro (PtS.keep h hz3 x34) (And.intro (PtS.keep h hz3 x35) (And.intro (PtS.keep h hz4 x40) (And.intro (PtS.keep h hz4 x41) (And.intro (PtS.keep h hz4 x42) (And.intro (PtS.keep h hz4 x43) (And.intro (PtS.keep h hz4 x44) (And.intro (PtS.keep h hz4 x45) h))))))))))))))))))))))))))
          have HLst : Hid (∀ w', (w'.cell? ⟨w.heap.size, 0, none⟩ = some (.int .i64 k1) ∧ w'.cell? ⟨w.heap.size, 1, none⟩ = some (.int .i64 n1) ∧ w'.cell? ⟨w.heap.size, 2, none⟩ = some (.string s1) ∧ w'.cell? ⟨w.heap.size, 3, none⟩ = some (.string t1) ∧ w'.cell? ⟨w.heap.size, 4, none⟩ = some (.slice A1 p1 c1) ∧ w'.cell? ⟨w.heap.size, 5, none⟩ = some (.slice B1 q1 d1) ∧ w'.cell? ⟨w.heap.size, 6, none⟩ = some (.slice C1 r1 e1) ∧ w'.cell? ⟨w.heap.size + 1, 0, none⟩ = some (.int .i64 k2) ∧ w'.cell? ⟨w.heap.size + 1, 1, none⟩ = some (.int .i64 n2) ∧ w'.cell? ⟨w.heap.size + 1, 2, none⟩ = some (.string s2) ∧ w'.cell? ⟨w.heap.size + 1, 3, none⟩ = some (.string t2) ∧ w'.cell? ⟨w.heap.size + 1, 4, none⟩ = some (.slice A2 p2 c2) ∧ w'.cell? ⟨w.heap.size + 1, 5, none⟩ = some (.slice B2 q2 d2) ∧ w'.cell? ⟨w.heap.size + 1, 6, none⟩ = some (.slice C2 r2 e2) ∧ w'.cell? ⟨w.heap.size + 1 + 1, 0, none⟩ = some (.int .i64 k3) ∧ w'.cell? ⟨w.heap.size + 1 + 1, 1, none⟩ = some (.int .i64 n3) ∧ w'.cell? ⟨w.heap.size + 1 + 1, 2, none⟩ = some (.string s3) ∧ w'.cell? ⟨w.heap.size + 1 + 1, 3, none⟩ = some (.slice A3 p3 c3) ∧ w'.cell? ⟨w.heap.size + 1 + 1, 4, none⟩ = some (.slice B3 q3 d3) ∧ w'.cell? ⟨w.heap.size + 1 + 1, 5, none⟩ = some (.int .i64 t3) ∧ w'.cell? ⟨w.heap.size + 1 + 1 + 1, 0, none⟩ = some (.int .i64 k4) ∧ w'.cell? ⟨w.heap.size + 1 + 1 + 1, 1, none⟩ = some (.int .i64 n4) ∧ w'.cell? ⟨w.heap.size + 1 + 1 + 1, 2, none⟩ = some (.string s4) ∧ w'.cell? ⟨w.heap.size + 1 + 1 + 1, 3, none⟩ = some (.slice A4 p4 c4) ∧ w'.cell? ⟨w.heap.size + 1 + 1 + 1, 4, none⟩ = some (.slice B4 q4 d4) ∧ w'.cell? ⟨w.heap.size + 1 + 1 + 1, 5, none⟩ = some (.int .i64 t4) ∧ PtS w5 w') → PtS w5 w') := Lib.hid (fun w' h => h.2.2.2.2.2.2.2.2.2.2.2.2.2.2.2.2.2.2.2.2.2.2.2.2.2.2)
          clear x10 x11 x12 x13 x14 x15 x16 x20 x21 x22 x23 x24 x25 x26 x30 x31 x32 x33 x34 x35 x40 x41 x42 x43 x44 x45
          go_region_held3 (fun w' => w'.cell? ⟨w.heap.size, 0, none⟩ = some (.int .i64 k1) ∧ w'.cell? ⟨w.heap.size, 1, none⟩ = some (.int .i64 n1) ∧ w'.cell? ⟨w.heap.size, 2, none⟩ = some (.string s1) ∧ w'.cell? ⟨w.heap.size, 3, none⟩ = some (.string t1) ∧ w'.cell? ⟨w.heap.size, 4, none⟩ = some (.slice A1 p1 c1) ∧ w'.cell? ⟨w.heap.size, 5, none⟩ = some (.slice B1 q1 d1) ∧ w'.cell? ⟨w.heap.size, 6, none⟩ = some (.slice C1 r1 e1) ∧ w'.cell? ⟨w.heap.size + 1, 0, none⟩ = some (.int .i64 k2) ∧ w'.cell? ⟨w.heap.size + 1, 1, none⟩ = some (.int .i64 n2) ∧ w'.cell? ⟨w.heap.size + 1, 2, none⟩ = some (.string s2) ∧ w'.cell? ⟨w.heap.size + 1, 3, none⟩ = some (.string t2) ∧ w'.cell? ⟨w.heap.size + 1, 4, none⟩ = some (.slice A2 p2 c2) ∧ w'.cell? ⟨w.heap.size + 1, 5, none⟩ = some (.slice B2 q2 d2) ∧ w'.cell? ⟨w.heap.size + 1, 6, none⟩ = some (.slice C2 r2 e2) ∧ w'.cell? ⟨w.heap.size + 1 + 1, 0, none⟩ = some (.int .i64 k3) ∧ w'.cell? ⟨w.heap.size + 1 + 1, 1, none⟩ = some (.int .i64 n3) ∧ w'.cell? ⟨w.heap.size + 1 + 1, 2, none⟩ = some (.string s3) ∧ w'.cell? ⟨w.heap.size + 1 + 1, 3, none⟩ = some (.slice A3 p3 c3) ∧ w'.cell? ⟨w.heap.size + 1 + 1, 4, none⟩ = some (.slice B3 q3 d3) ∧ w'.cell? ⟨w.heap.size + 1 + 1, 5, none⟩ = some (.int .i64 t3) ∧ w'.cell? ⟨w.heap.size + 1 + 1 + 1, 0, none⟩ = some (.int .i64 k4) ∧ w'.cell? ⟨w.heap.size + 1 + 1 + 1, 1, none⟩ = some (.int .i64 n4) ∧ w'.cell? ⟨w.heap.size + 1 + 1 + 1, 2, none⟩ = some (.string s4) ∧ w'.cell? ⟨w.heap.size + 1 + 1 + 1, 3, none⟩ = some (.slice A4 p4 c4) ∧ w'.cell? ⟨w.heap.size + 1 + 1 + 1, 4, none⟩ = some (.slice B4 q4 d4) ∧ w'.cell? ⟨w.heap.size + 1 + 1 + 1, 5, none⟩ = some (.int .i64 t4) ∧ PtS w5 w')
            ((refine HAll.out _ ?_; first | assumption | exact PtS.drew hs0 | exact PtS.below (by assumption) (HLst.out _ (by assumption)) | exact PtS.below (by assumption) (PtS.drew hs0)))
            (first | (go_at_call 23; (with_reducible refine (HS.out _ (HP.out _ (by first | exact HLst.out _ (by assumption) | exact PtS.drew hs0))).mono ?_); rintro e' w' ⟨rfl, hb⟩) | (go_at_call 23; (with_reducible refine (HSS.out _ (HP.out _ (by first | exact HLst.out _ (by assumption) | exact PtS.drew hs0))).mono ?_); rintro e' w' ⟨rfl, hb⟩) | (go_at_call 24; (with_reducible refine (HRS.out _ (HP.out _ (by first | exact HLst.out _ (by assumption) | exact PtS.drew hs0))).mono ?_); rintro e' w' ⟨rfl, hb⟩) | (go_at_call 25; (with_reducible refine (HT.out _ (HP.out _ (by first | exact HLst.out _ (by assumption) | exact PtS.drew hs0))).mono ?_); rintro e' w' ⟨rfl, hb⟩) | (go_at_call 26; (with_reducible refine (HRT.out _ (HP.out _ (by first | exact HLst.out _ (by assumption) | exact PtS.drew hs0))).mono ?_); rintro e' w' ⟨rfl, hb⟩) | (go_at_call 9; (with_reducible refine (shows_any _ (HEn.out.below (HP.out _ (by first | exact HLst.out _ (by assumption) | exact PtS.drew hs0)))).mono ?_); rintro e' w' ⟨rfl, hb⟩))
          rename_i hh
          have HBn := Lib.hid (HP.out _ (HLst.out _ hh))
          clear hh HAll HLst hs0 HP
          go_wp2_with fail
          go_ret
          exact ⟨rfl, HBn.out⟩
end Go.Proofs.YtndgoefhhjcllaaGreatDoor
