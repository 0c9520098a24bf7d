/- Texts put together by program: RLev RTxA RTxB RTxC RTxG RTxI RTxJ. -/
import Derived.Test.YtndgoefhhjcllaaGreatDoorMgG
/- The reference's level of an expression. -/
namespace Go.Proofs.YtndgoefhhjcllaaGreatDoor
open Go.RowKit

set_option maxRecDepth 100000 in
set_option maxHeartbeats 4000000 in
theorem rLevel_any (k : Int) (v1 : Value) (s : Txt) (v3 v4 v5 v6 : Value) (w : World) (ho : k = 9 → (opLv s).isSome = true) :
    Calls Tryz.prog 135 #[.agg #[.int .i64 k, v1, .string (strB s), v3, v4, v5, v6]] w fun e w' => e = .returned (.int .i64 (lvO k s)) ∧ Below w.heap.size w w' := by
  obtain ⟨r, hr⟩ : ∃ r, r = lvO k s := ⟨_, rfl⟩
  rw [← hr]
  by_cases h9 : k = 9
  · have hs := ho h9
    subst h9
    have hr2 : r = (opLv s).getD 0 := by rw [hr]; unfold lvO; rw [if_pos rfl]
    clear hr ho
    obtain ⟨S, hS⟩ : ∃ S, S = strB s := ⟨_, rfl⟩
    have f : ∀ x : Txt, (S.toList == x) = (s == x) := fun x => by rw [hS, ByteArray.toList_eq, data_strB]
    rw [← hS]
    clear hS
    by_cases c1 : s = [42]
    · have HR : Hid (r = 3) := Lib.hid (by rw [hr2, c1]; rfl)
      have f1 : (S.toList == [42]) = true := by rw [f, c1]; rfl
      clear f hr2 hs c1
      go_enter Tryz.func135, Tryz.ntmps135
      go_wp2_with fail
      go_ret
      exact ⟨by rw [HR.out]; rfl, (Below.refl _ _).alloc (Nat.le_refl _) _⟩
    · have f1 : (S.toList == [42]) = false := by rw [f]; exact beq_eq_false_iff_ne.2 c1
      by_cases c2 : s = [43]
      · have HR : Hid (r = 2) := Lib.hid (by rw [hr2, c2]; rfl)
        have f2 : (S.toList == [43]) = true := by rw [f, c2]; rfl
        clear f hr2 hs c1 c2
        go_enter Tryz.func135, Tryz.ntmps135
        go_wp2_with fail
        go_ret
        exact ⟨by rw [HR.out]; rfl, (Below.refl _ _).alloc (Nat.le_refl _) _⟩
      · have f2 : (S.toList == [43]) = false := by rw [f]; exact beq_eq_false_iff_ne.2 c2
        by_cases c3 : s = [45]
        · have HR : Hid (r = 2) := Lib.hid (by rw [hr2, c3]; rfl)
          have f3 : (S.toList == [45]) = true := by rw [f, c3]; rfl
          clear f hr2 hs c1 c2 c3
          go_enter Tryz.func135, Tryz.ntmps135
          go_wp2_with fail
          go_ret
          exact ⟨by rw [HR.out]; rfl, (Below.refl _ _).alloc (Nat.le_refl _) _⟩
        · have f3 : (S.toList == [45]) = false := by rw [f]; exact beq_eq_false_iff_ne.2 c3
          have HR : Hid (r = 1) := Lib.hid (by
            rw [hr2]
            unfold opLv at hs ⊢
            rw [if_neg c1, if_neg (by simp [c2, c3])] at hs ⊢
            split
            · rfl
            · rename_i h; rw [if_neg h] at hs; cases hs)
          clear f hr2 hs c1 c2 c3
          go_enter Tryz.func135, Tryz.ntmps135
          go_wp2_with fail
          go_ret
          exact ⟨by rw [HR.out]; rfl, (Below.refl _ _).alloc (Nat.le_refl _) _⟩
  · have b9 : (k == 9) = false := beq_eq_false_iff_ne.2 h9
    clear ho
    by_cases h4 : k = 4
    · have HR : Hid (r = 0) := Lib.hid (by rw [hr, h4]; rfl)
      clear hr
      subst h4
      go_enter Tryz.func135, Tryz.ntmps135
      go_wp2_with fail
      go_ret
      exact ⟨by rw [HR.out]; rfl, (Below.refl _ _).alloc (Nat.le_refl _) _⟩
    have b4 : (k == 4) = false := beq_eq_false_iff_ne.2 h4
    by_cases h6 : k = 6
    · have HR : Hid (r = 0) := Lib.hid (by rw [hr, h6]; rfl)
      clear hr
      subst h6
      go_enter Tryz.func135, Tryz.ntmps135
      go_wp2_with fail
      go_ret
      exact ⟨by rw [HR.out]; rfl, (Below.refl _ _).alloc (Nat.le_refl _) _⟩
    have b6 : (k == 6) = false := beq_eq_false_iff_ne.2 h6
    by_cases h7 : k = 7
    · have HR : Hid (r = 0) := Lib.hid (by rw [hr, h7]; rfl)
      clear hr
      subst h7
      go_enter Tryz.func135, Tryz.ntmps135
      go_wp2_with fail
      go_ret
      exact ⟨by rw [HR.out]; rfl, (Below.refl _ _).alloc (Nat.le_refl _) _⟩
    have b7 : (k == 7) = false := beq_eq_false_iff_ne.2 h7
    by_cases h8 : k = 8
    · have HR : Hid (r = 0) := Lib.hid (by rw [hr, h8]; rfl)
      clear hr
      subst h8
      go_enter Tryz.func135, Tryz.ntmps135
      go_wp2_with fail
      go_ret
      exact ⟨by rw [HR.out]; rfl, (Below.refl _ _).alloc (Nat.le_refl _) _⟩
    have b8 : (k == 8) = false := beq_eq_false_iff_ne.2 h8
    by_cases h17 : k = 17
    · have HR : Hid (r = 0) := Lib.hid (by rw [hr, h17]; rfl)
      clear hr
      subst h17
      go_enter Tryz.func135, Tryz.ntmps135
      go_wp2_with fail
      go_ret
      exact ⟨by rw [HR.out]; rfl, (Below.refl _ _).alloc (Nat.le_refl _) _⟩
    have b17 : (k == 17) = false := beq_eq_false_iff_ne.2 h17
    by_cases h5 : k = 5
    · have HR : Hid (r = 4) := Lib.hid (by rw [hr, h5]; rfl)
      clear hr
      subst h5
      go_enter Tryz.func135, Tryz.ntmps135
      go_wp2_with fail
      go_ret
      exact ⟨by rw [HR.out]; rfl, (Below.refl _ _).alloc (Nat.le_refl _) _⟩
    have b5 : (k == 5) = false := beq_eq_false_iff_ne.2 h5
    by_cases h12 : k = 12
    · have HR : Hid (r = 4) := Lib.hid (by rw [hr, h12]; rfl)
      clear hr
      subst h12
      go_enter Tryz.func135, Tryz.ntmps135
      go_wp2_with fail
      go_ret
      exact ⟨by rw [HR.out]; rfl, (Below.refl _ _).alloc (Nat.le_refl _) _⟩
    have b12 : (k == 12) = false := beq_eq_false_iff_ne.2 h12
    by_cases h13 : k = 13
    · have HR : Hid (r = 4) := Lib.hid (by rw [hr, h13]; rfl)
      clear hr
      subst h13
      go_enter Tryz.func135, Tryz.ntmps135
      go_wp2_with fail
      go_ret
      exact ⟨by rw [HR.out]; rfl, (Below.refl _ _).alloc (Nat.le_refl _) _⟩
    have b13 : (k == 13) = false := beq_eq_false_iff_ne.2 h13
    by_cases h16 : k = 16
    · have HR : Hid (r = 4) := Lib.hid (by rw [hr, h16]; rfl)
      clear hr
      subst h16
      go_enter Tryz.func135, Tryz.ntmps135
      go_wp2_with fail
      go_ret
      exact ⟨by rw [HR.out]; rfl, (Below.refl _ _).alloc (Nat.le_refl _) _⟩
    have b16 : (k == 16) = false := beq_eq_false_iff_ne.2 h16
    by_cases h18 : k = 18
    · have HR : Hid (r = 4) := Lib.hid (by rw [hr, h18]; rfl)
      clear hr
      subst h18
      go_enter Tryz.func135, Tryz.ntmps135
      go_wp2_with fail
      go_ret
      exact ⟨by rw [HR.out]; rfl, (Below.refl _ _).alloc (Nat.le_refl _) _⟩
    have b18 : (k == 18) = false := beq_eq_false_iff_ne.2 h18
    by_cases h19 : k = 19
    · have HR : Hid (r = 4) := Lib.hid (by rw [hr, h19]; rfl)
      clear hr
      subst h19
      go_enter Tryz.func135, Tryz.ntmps135
      go_wp2_with fail
      go_ret
      exact ⟨by rw [HR.out]; rfl, (Below.refl _ _).alloc (Nat.le_refl _) _⟩
    have b19 : (k == 19) = false := beq_eq_false_iff_ne.2 h19
    have HR : Hid (r = 5) := Lib.hid (by rw [hr]; unfold lvO; rw [if_neg h9, if_neg (by omega), if_neg (by omega)])
    clear hr h9 h4 h6 h7 h8 h17 h5 h12 h13 h16 h18 h19
    go_enter Tryz.func135, Tryz.ntmps135
    go_wp2_with fail
    go_ret
    exact ⟨by rw [HR.out]; rfl, (Below.refl _ _).alloc (Nat.le_refl _) _⟩
end Go.Proofs.YtndgoefhhjcllaaGreatDoor
/- The reference's joined; an expression's text where a level is asked for. -/
namespace Go.Proofs.YtndgoefhhjcllaaGreatDoor
open Go.RowKit

theorem inter_snoc (sep x : Txt) : ∀ (l : List Txt), l ≠ [] → (List.intersperse sep (l ++ [x])).flatten = (List.intersperse sep l).flatten ++ sep ++ x
  | [], h => absurd rfl h
  | [a], _ => by simp
  | a :: b :: r, _ => by
    have ih := inter_snoc sep x (b :: r) (by simp)
    rw [List.cons_append, List.cons_append, List.intersperse_cons_cons, List.intersperse_cons_cons, List.flatten_cons, List.flatten_cons, List.flatten_cons, List.flatten_cons, ← List.cons_append, ih]
    simp
theorem jn_snoc (l : List Txt) (sep x : Txt) : Lib.join (l ++ [x]) sep = Lib.join l sep ++ (if l = [] then [] else sep) ++ x := by
  unfold Lib.join List.intercalate
  by_cases h : l = []
  · subst h; simp
  · rw [if_neg h, inter_snoc sep x l h]
theorem strB_cat (a b : Txt) : strB (a ++ b) = strB a ++ strB b := by
  apply Go.WideShapes.bytes_inj
  rw [cat_data, data_strB, data_strB, data_strB]
theorem jn_len_take (l : List Txt) (sep : Txt) (k : Nat) : (Lib.join (l.take k) sep).length ≤ (Lib.join l sep).length := by
  have key : ∀ (b a : List Txt), (Lib.join a sep).length ≤ (Lib.join (a ++ b) sep).length := by
    intro b
    induction b with
    | nil => intro a; rw [List.append_nil]; exact Nat.le_refl _
    | cons x r ih =>
      intro a
      have h1 := ih (a ++ [x])
      rw [List.append_assoc, List.singleton_append, jn_snoc, List.length_append, List.length_append] at h1
      omega
  have := key (l.drop k) (l.take k)
  rwa [List.take_append_drop] at this

set_option maxRecDepth 100000 in
set_option maxHeartbeats 1000000 in
theorem rJoined_any (P : Nat → Prop) (A : Option Addr) (c : Nat) (L : List Txt) (sep : Txt) (w : World) (hL : NamesAt P w A L) (hl : L.length ≤ maxLen) (hz : (Lib.join L sep).length ≤ 4000000000000000000) (hs : sep.length ≤ 100) :
    Calls Tryz.prog 87 #[.slice A L.length c, .string (strB sep)] w fun e w' => e = .returned (.string (strB (Lib.join L sep))) ∧ w = w' := by
  obtain ⟨n, hn⟩ : ∃ n, n = L.length := ⟨_, rfl⟩
  have HN := Lib.hid hn
  have hl2 : (n : Int) ≤ 9223372036854775807 := by unfold maxLen at hl; omega
  have HL := Lib.hid hL
  have HZ := Lib.hid hz
  obtain ⟨S, hS⟩ : ∃ S, S = strB sep := ⟨_, rfl⟩
  have HS := Lib.hid hS
  have hSz : S.size ≤ 100 := by rw [hS, strB_size]; exact hs
  obtain ⟨R, hR⟩ : ∃ R, R = strB (Lib.join L sep) := ⟨_, rfl⟩
  have HR := Lib.hid hR
  rw [← hn, ← hS, ← hR]
  clear hl hL hn hz hS hs hR
  go_enter Tryz.func87, Tryz.ntmps87
  go_wp2_with fail
  go_loop [5, 6] (fun o i => ∃ (k : Nat) (O : ByteArray), k ≤ n ∧ i = .int .i64 (k : Int) ∧ o = .string O ∧ O.size ≤ 4000000000000000000 ∧ Hid (O = strB (Lib.join (L.take k) sep))) (fun o i => n - (intOf i).toNat)
  case atStart => exact ⟨0, ⟨#[]⟩, Nat.zero_le _, rfl, rfl, by decide, Lib.hid rfl⟩
  case round =>
    obtain ⟨k, O, hk, rfl, rfl, hOz, HO⟩ := hrel
    by_cases hkn : k < n
    · have hkl : k < L.length := by rw [← HN.out]; exact hkn
      obtain ⟨b, off, rfl, _, hlt, hc⟩ := HL.out (List.ne_nil_of_length_pos (by omega))
      have hcell := hc k L[k] (List.getElem?_eq_getElem hkl)
      clear hc
      have HT : Hid (Lib.join (L.take (k + 1)) sep = Lib.join (L.take k) sep ++ (if L.take k = [] then [] else sep) ++ L[k]) := Lib.hid (by rw [take_succ_of hkl, jn_snoc])
      have HTl := jn_len_take L sep (k + 1)
      have hzz := HZ.out
      rw [HT.out, List.length_append, List.length_append] at HTl
      have hOl : O.size = (Lib.join (L.take k) sep).length := by rw [HO.out, strB_size]
      obtain ⟨x, hx⟩ : ∃ x, x = strB L[k] := ⟨_, rfl⟩
      have hxz : x.size = L[k].length := by rw [hx, strB_size]
      have HX := Lib.hid hx
      rw [← hx] at hcell
      have i0 : (0 : Int) ≤ (k : Int) := by omega
      have i1 : (k : Int) < (n : Int) := by omega
      by_cases h0 : k = 0
      · have hs1 : O.size + x.size ≤ 4000000000000000000 := by omega
        have HO2 : Hid (O ++ x = strB (Lib.join (L.take (k + 1)) sep)) := Lib.hid (by
          rw [HT.out, if_pos (by subst h0; rfl), strB_cat, strB_cat, HX.out, HO.out]; congr 1
          apply Go.WideShapes.bytes_inj; rw [cat_data]; simp [data_strB])
        have hk0 : k ≤ 0 := by omega
        clear HTl hzz hOl hx hxz h0
        go_wp2_with fail
        go_round
        case rel => exact ⟨k + 1, O ++ x, by omega, by go_num, rfl, by rw [ByteArray.size_append]; omega, HO2⟩
        case measure => simp [intOf]; omega
      · have hne : ¬ L.take k = [] := fun h => by have := congrArg List.length h; rw [List.length_take, List.length_nil] at this; omega
        have hss : S.size = sep.length := by rw [HS.out, strB_size]
        rw [if_neg hne] at HTl
        have hs1 : O.size + S.size ≤ 4000000000000000000 := by omega
        have hs2 : O.size + S.size + x.size ≤ 4000000000000000000 := by omega
        have HO2 : Hid (O ++ S ++ x = strB (Lib.join (L.take (k + 1)) sep)) := Lib.hid (by rw [HT.out, if_neg hne, strB_cat, strB_cat, HX.out, HO.out, HS.out])
        have hk0 : 0 < k := by omega
        clear HTl hzz hOl hx hxz h0 hne hss
        go_wp2_with fail
        go_round
        case rel => exact ⟨k + 1, O ++ S ++ x, by omega, by go_num, rfl, by rw [ByteArray.size_append, ByteArray.size_append]; omega, HO2⟩
        case measure => simp [intOf]; omega
    · obtain rfl : k = n := by omega
      have HE : Hid (O = R) := Lib.hid (by rw [HR.out, HO.out, HN.out, List.take_length])
      go_wp2_with fail
      go_ret
      exact ⟨by rw [HE.out]; rfl, rfl⟩
end Go.Proofs.YtndgoefhhjcllaaGreatDoor
/- The reference's text of an expression where a level is asked for. -/
namespace Go.Proofs.YtndgoefhhjcllaaGreatDoor
open Go.RowKit

/-- the text where a level is asked for -/
def atT (a : Int) (e : Ex) : Txt := (atP a e.lp).flatten
theorem atT_eq (a : Int) (e : Ex) : atT a e = if a ≤ e.lv then textE e else [40] ++ (textE e ++ [41]) := by
  unfold atT atP textE
  show (if a ≤ e.lv then pcs e else _).flatten = _
  by_cases h : a ≤ e.lv
  · rw [if_pos h, if_pos h]
  · rw [if_neg h, if_neg h]
    show ([40] :: (pcs e ++ [[41]])).flatten = _
    simp
theorem textE_len {e : Ex} (h : wfE e) (hz : (nodesE 1 e).length ≤ 3000) : (textE e).length ≤ 3000000 := by
  have h1 := tot_pcs e h 1
  have h2 := flatten_len (pcs e)
  unfold textE
  omega
theorem atT_len {e : Ex} (a : Int) (h : wfE e) (hz : (nodesE 1 e).length ≤ 3000) : (atT a e).length ≤ 3000002 := by
  have := textE_len h hz
  rw [atT_eq]
  split
  · omega
  · simp; omega
/-- what the reference's text says of an expression -/
def TxSays (e : Ex) : Prop := wfE e → (nodesE 1 e).length ≤ 3000 → ∀ (k n : Int) (s t : ByteArray) (A0 : Option Addr) (n0 c0 : Nat) (A1 : Option Addr) (n1 c1 : Nat) (A2 : Option Addr) (n2 c2 : Nat) (w : World), RepE (fun _ => True) w e [.int .i64 k, .int .i64 n, .string s, .string t, .slice A0 n0 c0, .slice A1 n1 c1, .slice A2 n2 c2] →
  Calls Tryz.prog 34 #[.agg #[.int .i64 k, .int .i64 n, .string s, .string t, .slice A0 n0 c0, .slice A1 n1 c1, .slice A2 n2 c2]] w fun r w' => r = .returned (.string (strB (textE e))) ∧ Below w.heap.size w w'
def AtSays (e : Ex) : Prop := ∀ (least : Int) (k n : Int) (s t : ByteArray) (A0 : Option Addr) (n0 c0 : Nat) (A1 : Option Addr) (n1 c1 : Nat) (A2 : Option Addr) (n2 c2 : Nat) (w : World), RepE (fun _ => True) w e [.int .i64 k, .int .i64 n, .string s, .string t, .slice A0 n0 c0, .slice A1 n1 c1, .slice A2 n2 c2] →
  Calls Tryz.prog 83 #[.agg #[.int .i64 k, .int .i64 n, .string s, .string t, .slice A0 n0 c0, .slice A1 n1 c1, .slice A2 n2 c2], .int .i64 least] w fun r w' => r = .returned (.string (strB (atT least e))) ∧ Below w.heap.size w w'
theorem wf_op {e : Ex} (h : wfE e) : e.k = 9 → (opLv e.s).isSome = true := fun h9 => by
  cases e with
  | mk k n s t ns l ops bs =>
    obtain ⟨h0, _, _⟩ := h.parts
    obtain ⟨kn, H⟩ := shape_of h0
    have hk := H.hk
    have hkn : kn = 9 := by have : (k : Int) = 9 := h9; omega
    subst hkn
    have h1 := H.s1
    rw [show useOf 9 1 = 4 by decide] at h1
    exact h1
set_option maxRecDepth 100000 in
set_option maxHeartbeats 1000000 in
theorem at_any (e : Ex) (hx : TxSays e) (hwf : wfE e) (hz : (nodesE 1 e).length ≤ 3000) : AtSays e := by
  intro least k n s t A0 n0 c0 A1 n1 c1 A2 n2 c2 w hre
  obtain ⟨hk, -, hs, -⟩ := hre.sOf
  subst hs
  have HLv := Lib.hid (fun w => rLevel_any k (.int .i64 n) e.s (.string t) (.slice A0 n0 c0) (.slice A1 n1 c1) (.slice A2 n2 c2) w (fun h => wf_op hwf (by rw [← hk]; exact h)))
  have HTx := Lib.hid (fun w' (hb : Below w.heap.size w w') => hx hwf hz k n (strB e.s) t A0 n0 c0 A1 n1 c1 A2 n2 c2 w' (hre.keep (Same.of_below hb)))
  obtain ⟨X, hX⟩ : ∃ X, X = strB (textE e) := ⟨_, rfl⟩
  have hXz : X.size ≤ 3000000 := by rw [hX, strB_size]; exact textE_len hwf hz
  obtain ⟨L, hL⟩ : ∃ L, L = lvO k e.s := ⟨_, rfl⟩
  have HR : Hid (strB (atT least e) = if least ≤ L then X else ⟨#[40]⟩ ++ X ++ ⟨#[41]⟩) := Lib.hid (by
    rw [atT_eq, hL, hk, show lvO e.k e.s = e.lv from rfl]
    split
    · exact hX.symm
    · rw [strB_cat, strB_cat, hX, ← ByteArray.append_assoc]; rfl)
  rw [← hX] at HTx
  rw [← hL] at HLv
  obtain ⟨S, hS⟩ : ∃ S, S = strB e.s := ⟨_, rfl⟩
  obtain ⟨Y, hY⟩ : ∃ Y, Y = strB (atT least e) := ⟨_, rfl⟩
  rw [← hY] at HR ⊢
  rw [← hS] at HLv HTx ⊢
  clear hX hL hS hY hre hx hwf hz hk
  obtain ⟨W1, hW1⟩ : ∃ W1, w.alloc (.cells #[.int .i64 k, .int .i64 n, .string S, .string t, .slice A0 n0 c0, .slice A1 n1 c1, .slice A2 n2 c2] 27) = W1 := ⟨_, rfl⟩
  have HB0 : Hid (Below w.heap.size w W1) := Lib.hid (by rw [← hW1]; exact (Below.refl _ _).alloc (Nat.le_refl _) _)
  have HE1 : Hid (EB W1 w.heap.size (.int .i64 k) (.int .i64 n) (.string S) (.string t) (.slice A0 n0 c0) (.slice A1 n1 c1) (.slice A2 n2 c2)) := Lib.hid (by rw [← hW1]; exact EB.new w _ _ _ _ _ _ _)
  have e0 := HE1.out.c0
  have e1 := HE1.out.c1
  have e2 := HE1.out.c2
  have e3 := HE1.out.c3
  have e4 := HE1.out.c4
  have e5 := HE1.out.c5
  have e6 := HE1.out.c6
  by_cases hl : L < least
  · have HR2 : Hid (Y = ⟨#[40]⟩ ++ X ++ ⟨#[41]⟩) := Lib.hid (by rw [HR.out, if_neg (by omega)])
    have hd : decide (L < least) = true := decide_eq_true hl
    clear hl
    go_enter Tryz.func83, Tryz.ntmps83
    go_wp2_with fail
    clear hW1
    refine (HLv.out W1).mono ?_
    rintro r w1 ⟨rfl, hb⟩
    have HB1 := Lib.hid (HB0.out.trans (hb.mono HB0.out.size))
    have HE2 := Lib.hid (HE1.out.kept (grown_below hb none) (by simp))
    clear hb e0 e1 e2 e3 e4 e5 e6
    have e0 := HE2.out.c0
    have e1 := HE2.out.c1
    have e2 := HE2.out.c2
    have e3 := HE2.out.c3
    have e4 := HE2.out.c4
    have e5 := HE2.out.c5
    have e6 := HE2.out.c6
    go_wp2_with fail
    refine (HTx.out w1 HB1.out).mono ?_
    rintro r w2 ⟨rfl, hb⟩
    have HB2 := Lib.hid (HB1.out.trans (hb.mono HB1.out.size))
    clear hb
    go_wp2_with fail
    go_ret
    exact ⟨by rw [HR2.out]; rfl, HB2.out⟩
  · have HR2 : Hid (Y = X) := Lib.hid (by rw [HR.out, if_pos (by omega)])
    have hd : decide (L < least) = false := decide_eq_false hl
    clear hl
    go_enter Tryz.func83, Tryz.ntmps83
    go_wp2_with fail
    clear hW1
    refine (HLv.out W1).mono ?_
    rintro r w1 ⟨rfl, hb⟩
    have HB1 := Lib.hid (HB0.out.trans (hb.mono HB0.out.size))
    have HE2 := Lib.hid (HE1.out.kept (grown_below hb none) (by simp))
    clear hb e0 e1 e2 e3 e4 e5 e6
    have e0 := HE2.out.c0
    have e1 := HE2.out.c1
    have e2 := HE2.out.c2
    have e3 := HE2.out.c3
    have e4 := HE2.out.c4
    have e5 := HE2.out.c5
    have e6 := HE2.out.c6
    go_wp2_with fail
    refine (HTx.out w1 HB1.out).mono ?_
    rintro r w2 ⟨rfl, hb⟩
    have HB2 := Lib.hid (HB1.out.trans (hb.mono HB1.out.size))
    clear hb
    go_wp2_with fail
    go_ret
    exact ⟨by rw [HR2.out]; rfl, HB2.out⟩
end Go.Proofs.YtndgoefhhjcllaaGreatDoor
/- The reference's text, kind by kind: what serves all kinds. -/
namespace Go.Proofs.YtndgoefhhjcllaaGreatDoor
open Go.RowKit

/-- what the reference's text answers for a node, by its cells -/
def TxR (e : Ex) : Prop := ∀ (cs : List Value) (w : World), RepE (fun _ => True) w e cs → Calls Tryz.prog 34 #[.agg cs.toArray] w fun r w' => r = .returned (.string (strB (textE e))) ∧ Below w.heap.size w w'
/-- a list of expressions in brackets -/
def lsT (l : List Ex) : Txt := [91] ++ Lib.join (l.map (atT 0)) [44, 32] ++ [93]
/-- an arm as text -/
def arT (o : Txt × List Txt) (e : Ex) : Txt := Lib.join (o.1 :: o.2) [32] ++ [32, 45, 62, 32] ++ atT 0 e
/-- arms in braces -/
def clT (ops : List (Txt × List Txt)) (bs : List Ex) : Txt := if bs.length = 0 then [123, 32, 125] else [123, 32] ++ Lib.join (List.zipWith arT ops bs) [59, 32] ++ [32, 125]
theorem PartsAt.below {B : Nat} {w w' : World} {A : Option Addr} {l : List Ex} (h : PartsAt B w A l) (hb : Below w.heap.size w w') : PartsAt B w' A l := fun h0 => by
  obtain ⟨b, off, e, h1, h2, hc⟩ := h h0
  have k : ∀ o, w'.cell? ⟨b, o, none⟩ = w.cell? ⟨b, o, none⟩ := fun o => Below.cell (p := ⟨b, o, none⟩) hb h2
  refine ⟨b, off, e, h1, Nat.lt_of_lt_of_le h2 hb.size, fun j e hj => ?_⟩
  obtain ⟨k0, n, s, t, A0, n0, c0, A1, n1, c1, A2, n2, c2, hr, d0, d1, d2, d3, d4, d5, d6⟩ := hc j e hj
  exact ⟨k0, n, s, t, A0, n0, c0, A1, n1, c1, A2, n2, c2, hr.keep (Same.of_below hb), (k _).trans d0, (k _).trans d1, (k _).trans d2, (k _).trans d3, (k _).trans d4, (k _).trans d5, (k _).trans d6⟩
theorem ArmsAt.below {B : Nat} {w w' : World} {A : Option Addr} {hs : List (Txt × List Txt)} {bs : List Ex} (h : ArmsAt B w A hs bs) (hb : Below w.heap.size w w') : ArmsAt B w' A hs bs := fun h0 => by
  obtain ⟨b, off, e, h1, h2, hc⟩ := h h0
  have kk : ∀ o, w'.cell? ⟨b, o, none⟩ = w.cell? ⟨b, o, none⟩ := fun o => Below.cell (p := ⟨b, o, none⟩) hb h2
  refine ⟨b, off, e, h1, Nat.lt_of_lt_of_le h2 hb.size, fun j hd e g1 g2 => ?_⟩
  obtain ⟨An, cn, k, n, s, t, A0, n0, c0, A1, n1, c1, A2, n2, c2, H⟩ := hc j hd e g1 g2
  exact ⟨An, cn, k, n, s, t, A0, n0, c0, A1, n1, c1, A2, n2, c2, H.names.keep (Same.of_below hb), H.len, H.rep.keep (Same.of_below hb), (kk _).trans H.d0, (kk _).trans H.d1, (kk _).trans H.d2, (kk _).trans H.d3, (kk _).trans H.d4, (kk _).trans H.d5, (kk _).trans H.d6, (kk _).trans H.d7, (kk _).trans H.d8⟩
theorem PtS.keep {w0 w : World} {b o : Nat} {v : Value} (h : PtS w0 w) (hlt : b < w0.heap.size) (hc : w0.cell? ⟨b, o, none⟩ = some v) : w.cell? ⟨b, o, none⟩ = some v := (Below.cell (p := ⟨b, o, none⟩) (show Below w0.heap.size w0 w from h) hlt).trans hc
theorem PartCells.up {B b o : Nat} {w W1 : World} {e : Ex} {k n : Int} {s t : ByteArray} {A0 : Option Addr} {n0 c0 : Nat} {A1 : Option Addr} {n1 c1 : Nat} {A2 : Option Addr} {n2 c2 : Nat} (h : PartCells B w b o e k n s t A0 n0 c0 A1 n1 c1 A2 n2 c2) (hb : b < w.heap.size) (hB : Below w.heap.size w W1) :
    W1.cell? ⟨b, o, none⟩ = some (.int .i64 k) ∧ W1.cell? ⟨b, o + 1, none⟩ = some (.int .i64 n) ∧ W1.cell? ⟨b, o + 2, none⟩ = some (.string s) ∧ W1.cell? ⟨b, o + 3, none⟩ = some (.string t) ∧ W1.cell? ⟨b, o + 4, none⟩ = some (.slice A0 n0 c0) ∧ W1.cell? ⟨b, o + 5, none⟩ = some (.slice A1 n1 c1) ∧ W1.cell? ⟨b, o + 6, none⟩ = some (.slice A2 n2 c2) := by
  have k : ∀ o, W1.cell? ⟨b, o, none⟩ = w.cell? ⟨b, o, none⟩ := fun o => Below.cell (p := ⟨b, o, none⟩) hB hb
  exact ⟨(k _).trans h.d0, (k _).trans h.d1, (k _).trans h.d2, (k _).trans h.d3, (k _).trans h.d4, (k _).trans h.d5, (k _).trans h.d6⟩
/-- where the rest of some names begins -/
def AdrOk (rn : List Txt) (nb noff : Nat) (A : Option Addr) : Prop := rn ≠ [] → A = some ⟨nb, noff + 1, none⟩
/-- what is said of a list in brackets, and of arms in braces -/
def LsSays (l : List Ex) : Prop := ∀ (A : Option Addr) (c : Nat) (w : World) (B : Nat), PartsAt B w A l → B ≤ w.heap.size → Calls Tryz.prog 85 #[.slice A l.length c] w fun r w' => r = .returned (.string (strB (lsT l))) ∧ Below w.heap.size w w'
def ClSays (ops : List (Txt × List Txt)) (bs : List Ex) : Prop := ∀ (A : Option Addr) (c : Nat) (w : World) (B : Nat), ArmsAt B w A ops bs → ops.length = bs.length → B ≤ w.heap.size → Calls Tryz.prog 86 #[.slice A bs.length c] w fun r w' => r = .returned (.string (strB (clT ops bs))) ∧ Below w.heap.size w w'
theorem jn_cons (a b : Txt) (r : List Txt) (sep : Txt) : Lib.join (a :: b :: r) sep = a ++ (sep ++ Lib.join (b :: r) sep) := by
  unfold Lib.join List.intercalate
  rw [List.intersperse_cons_cons, List.flatten_cons, List.flatten_cons]
theorem flat_listP (sep : Txt) : ∀ (xs : List (List Txt)), (listP sep xs).flatten = Lib.join (xs.map List.flatten) sep
  | [] => rfl
  | [x] => by simp [listP, Lib.join, List.intercalate]
  | x :: y :: r => by
    have ih := flat_listP sep (y :: r)
    rw [List.map_cons, List.map_cons, jn_cons, ← List.map_cons, ← ih]
    simp [listP]
theorem flat_spaced (ns : List Txt) (a : Txt) : a ++ (spacedP ns).flatten = Lib.join (a :: ns) [32] := by
  induction ns generalizing a with
  | nil => simp [spacedP, Lib.join, List.intercalate]
  | cons x r ih =>
    rw [jn_cons, ← ih x]
    simp [spacedP]
theorem flat_arm (o : Txt × List Txt) (e : Ex) : (armP o e.lp).flatten = arT o e := by
  unfold armP arT atT
  rw [← flat_spaced]
  simp
theorem flat_braces (ops : List (Txt × List Txt)) (bs : List Ex) : (bracesP ops (bs.map Ex.lp)).flatten = clT ops bs := by
  have hz : ∀ (ops : List (Txt × List Txt)) (bs : List Ex), (List.zipWith armP ops (bs.map Ex.lp)).map List.flatten = List.zipWith arT ops bs := by
    intro ops
    induction ops with
    | nil => intro bs; simp
    | cons o q ih =>
      intro bs
      cases bs with
      | nil => simp
      | cons e r => simp [ih r, flat_arm]
  unfold bracesP clT
  have h1 := flat_listP [59, 32] (List.zipWith armP ops (bs.map Ex.lp))
  rw [hz] at h1
  rw [List.flatten_append, List.flatten_append, List.flatten_append, h1, List.length_map]
  by_cases h : bs.length = 0
  · rw [if_pos h, if_pos h]
    have hb : bs = [] := List.length_eq_zero_iff.1 h
    subst hb
    simp [Lib.join, List.intercalate]
  · rw [if_neg h, if_neg h]
    simp
theorem txeq_con (n : Int) (s t : Txt) (ns : List Txt) (l : List Ex) (ops : List (Txt × List Txt)) (bs : List Ex) (h : 0 < l.length) : textE (.mk 10 n s t ns l ops bs) = s ++ lsT l := by
  unfold textE lsT
  rw [pcs_mk]
  have h1 := flat_listP [44, 32] ((l.map Ex.lp).map (atP 0))
  have h2 : ((l.map Ex.lp).map (atP 0)).map List.flatten = l.map (atT 0) := by rw [List.map_map, List.map_map]; rfl
  rw [h2] at h1
  show ([s] ++ (if (l.map Ex.lp).length = 0 then [] else [[91]] ++ (listP [44, 32] ((l.map Ex.lp).map (atP 0)) ++ [[93]]))).flatten = _
  rw [if_neg (by rw [List.length_map]; omega), List.flatten_append, List.flatten_append, List.flatten_append, h1]
  simp
-- GEN
theorem txeq_fun (n : Int) (s t : Txt) (a0 : Txt) (e0 : Ex) (rl : List Ex) (ops : List (Txt × List Txt)) (bs : List Ex) : textE (.mk 4 n s t [a0] (e0 :: rl) ops bs) = [102, 117, 110, 32] ++ a0 ++ [32, 45, 62, 32] ++ atT 0 e0 := by
  unfold textE atT
  rw [pcs_mk]
  simp [nodeP, openP, spacedP, behindP]
theorem txeq_app (n : Int) (s t : Txt) (ns : List Txt) (e0 e1 : Ex) (rl : List Ex) (ops : List (Txt × List Txt)) (bs : List Ex) : textE (.mk 5 n s t ns (e0 :: e1 :: rl) ops bs) = atT 4 e0 ++ [32] ++ atT 5 e1 := by
  unfold textE atT
  rw [pcs_mk]
  simp [nodeP, nth]
theorem txeq_let (n : Int) (s t : Txt) (a0 : Txt) (e0 e1 : Ex) (rl : List Ex) (ops : List (Txt × List Txt)) (bs : List Ex) : textE (.mk 6 n s t [a0] (e0 :: e1 :: rl) ops bs) = [108, 101, 116, 32] ++ a0 ++ [32, 61, 32] ++ atT 0 e0 ++ [32, 105, 110, 32] ++ atT 0 e1 := by
  unfold textE atT
  rw [pcs_mk]
  simp [nodeP, openP, spacedP, behindP]
theorem txeq_rec (n : Int) (s t : Txt) (a0 a1 : Txt) (e0 e1 : Ex) (rl : List Ex) (ops : List (Txt × List Txt)) (bs : List Ex) : textE (.mk 7 n s t [a0, a1] (e0 :: e1 :: rl) ops bs) = [114, 101, 99, 32] ++ a0 ++ [32] ++ a1 ++ [32, 61, 32] ++ atT 0 e0 ++ [32, 105, 110, 32] ++ atT 0 e1 := by
  unfold textE atT
  rw [pcs_mk]
  simp [nodeP, openP, spacedP, behindP]
theorem txeq_if (n : Int) (s t : Txt) (ns : List Txt) (e0 e1 e2 : Ex) (rl : List Ex) (ops : List (Txt × List Txt)) (bs : List Ex) : textE (.mk 8 n s t ns (e0 :: e1 :: e2 :: rl) ops bs) = [105, 102, 32] ++ atT 0 e0 ++ [32, 116, 104, 101, 110, 32] ++ atT 0 e1 ++ [32, 101, 108, 115, 101, 32] ++ atT 0 e2 := by
  unfold textE atT
  rw [pcs_mk]
  simp [nodeP, behindP]
theorem txeq_match (n : Int) (s t : Txt) (ns : List Txt) (e0 : Ex) (rl : List Ex) (ops : List (Txt × List Txt)) (bs : List Ex) : textE (.mk 11 n s t ns (e0 :: rl) ops bs) = [109, 97, 116, 99, 104, 32] ++ atT 0 e0 ++ [32] ++ clT ops bs := by
  unfold textE atT
  rw [pcs_mk]
  simp [nodeP, bracedP, nth, flat_braces]
theorem txeq_do (n : Int) (s t : Txt) (ns : List Txt) (e0 : Ex) (rl : List Ex) (ops : List (Txt × List Txt)) (bs : List Ex) : textE (.mk 12 n s t ns (e0 :: rl) ops bs) = [100, 111, 32] ++ s ++ [32] ++ atT 5 e0 := by
  unfold textE atT
  rw [pcs_mk]
  simp [nodeP, callP, nth]
theorem txeq_atk (n : Int) (s t : Txt) (ns : List Txt) (e0 : Ex) (rl : List Ex) (ops : List (Txt × List Txt)) (bs : List Ex) : textE (.mk 13 n s t ns (e0 :: rl) ops bs) = s ++ [46] ++ t ++ [32] ++ atT 5 e0 := by
  unfold textE atT
  rw [pcs_mk]
  simp [nodeP, callP, nth]
theorem txeq_handle0 (s t : Txt) (ns : List Txt) (e0 : Ex) (rl : List Ex) (ops : List (Txt × List Txt)) (bs : List Ex) : textE (.mk 14 0 s t ns (e0 :: rl) ops bs) = [104, 97, 110, 100, 108, 101, 32] ++ s ++ [32] ++ atT 0 e0 ++ [32] ++ clT ops bs := by
  unfold textE atT
  rw [pcs_mk]
  simp [nodeP, bracedP, nth, flat_braces]
theorem txeq_handle1 (s t : Txt) (ns : List Txt) (e0 : Ex) (rl : List Ex) (ops : List (Txt × List Txt)) (bs : List Ex) : textE (.mk 14 1 s t ns (e0 :: rl) ops bs) = [115, 104, 97, 108, 108, 111, 119, 32] ++ s ++ [32] ++ atT 0 e0 ++ [32] ++ clT ops bs := by
  unfold textE atT
  rw [pcs_mk]
  simp [nodeP, bracedP, nth, flat_braces]
theorem txeq_named (n : Int) (s t : Txt) (a0 : Txt) (e0 : Ex) (rl : List Ex) (ops : List (Txt × List Txt)) (bs : List Ex) : textE (.mk 15 n s t [a0] (e0 :: rl) ops bs) = [110, 97, 109, 101, 100, 32] ++ a0 ++ [32] ++ s ++ [32] ++ atT 0 e0 ++ [32] ++ clT ops bs := by
  unfold textE atT
  rw [pcs_mk]
  simp [nodeP, bracedP, nth, flat_braces]
theorem txeq_mask (n : Int) (s t : Txt) (ns : List Txt) (e0 : Ex) (rl : List Ex) (ops : List (Txt × List Txt)) (bs : List Ex) : textE (.mk 16 n s t ns (e0 :: rl) ops bs) = [109, 97, 115, 107, 32] ++ s ++ [32] ++ atT 5 e0 := by
  unfold textE atT
  rw [pcs_mk]
  simp [nodeP, callP, nth]
theorem txeq_using (n : Int) (s t : Txt) (a0 : Txt) (rn : List Txt) (e0 e1 e2 : Ex) (rl : List Ex) (ops : List (Txt × List Txt)) (bs : List Ex) : textE (.mk 17 n s t (a0 :: rn) (e0 :: e1 :: e2 :: rl) ops bs) = [117, 115, 105, 110, 103, 32] ++ a0 ++ [32, 91] ++ Lib.join rn [44, 32] ++ [93, 32, 61, 32] ++ atT 0 e0 ++ [32, 99, 108, 111, 115, 101, 32] ++ atT 0 e1 ++ [32, 105, 110, 32] ++ atT 0 e2 := by
  unfold textE atT
  rw [pcs_mk]
  simp [nodeP, behindP]
theorem txeq_resume (n : Int) (s t : Txt) (ns : List Txt) (e0 : Ex) (rl : List Ex) (ops : List (Txt × List Txt)) (bs : List Ex) : textE (.mk 18 n s t ns (e0 :: rl) ops bs) = [114, 101, 115, 117, 109, 101, 32] ++ s ++ [32] ++ atT 5 e0 := by
  unfold textE atT
  rw [pcs_mk]
  simp [nodeP, callP, nth]
end Go.Proofs.YtndgoefhhjcllaaGreatDoor
/- The reference's text: nodes without parts; Prim. -/
namespace Go.Proofs.YtndgoefhhjcllaaGreatDoor
open Go.RowKit

set_option maxRecDepth 100000 in
set_option maxHeartbeats 4000000 in
theorem tx_leaf (kn : Nat) (n : Int) (s t : Txt) (ns : List Txt) (l : List Ex) (ops : List (Txt × List Txt)) (bs : List Ex) (hk : kn = 0 ∨ kn = 3 ∨ kn = 19 ∨ kn = 10 ∧ l.length = 0) (hs : s.length ≤ 12) : TxR (.mk (kn : Int) n s t ns l ops bs) := by
  intro cs w hre
  obtain ⟨An, cn, Al, cl, Aa, ca, rfl, hf, hn, hl, ha, ho⟩ := hre
  show Calls Tryz.prog 34 #[.agg #[.int .i64 kn, .int .i64 n, .string (strB s), .string (strB t), .slice An ns.length cn, .slice Al l.length cl, .slice Aa bs.length ca]] w _
  have HB1 := Lib.hid ((Below.refl w.heap.size w).alloc (Nat.le_refl _) (.cells #[.int .i64 kn, .int .i64 n, .string (strB s), .string (strB t), .slice An ns.length cn, .slice Al l.length cl, .slice Aa bs.length ca] 27))
  obtain ⟨S, hS⟩ : ∃ S, S = strB s := ⟨_, rfl⟩
  obtain ⟨T, hT⟩ : ∃ S, S = strB t := ⟨_, rfl⟩
  have hSz : S.size ≤ 12 := by rw [hS, strB_size]; exact hs
  obtain ⟨R, hR⟩ : ∃ R, R = strB (textE (.mk (kn : Int) n s t ns l ops bs)) := ⟨_, rfl⟩
  rw [← hR]
  rw [← hS, ← hT] at HB1 ⊢
  clear hf hn hl ha ho
  rcases hk with rfl | rfl | rfl | ⟨rfl, hl0⟩
  · have HR : Hid (R = S) := Lib.hid (by rw [hR, hS]; unfold textE; rw [pcs_mk]; simp [nodeP])
    clear hR hS hT
    go_enter Tryz.func34, Tryz.ntmps34
    go_wp2_with fail
    go_ret
    exact ⟨by rw [HR.out]; rfl, HB1.out⟩
  · have HR : Hid (R = ⟨#[40, 41]⟩) := Lib.hid (by rw [hR]; unfold textE; rw [pcs_mk]; rfl)
    clear hR hS hT
    go_enter Tryz.func34, Tryz.ntmps34
    go_wp2_with fail
    go_ret
    exact ⟨by rw [HR.out]; rfl, HB1.out⟩
  · have HR : Hid (R = ⟨#[100, 114, 111, 112, 32]⟩ ++ S) := Lib.hid (by
      rw [hR, hS, show textE (.mk ((19 : Nat) : Int) n s t ns l ops bs) = [100, 114, 111, 112, 32] ++ s by unfold textE; rw [pcs_mk]; simp [nodeP], strB_cat]; rfl)
    have hz1 : ¬ 9223372036854775807 < 5 + S.size := by omega
    clear hR hS hT
    go_enter Tryz.func34, Tryz.ntmps34
    go_wp2_with fail
    go_ret
    exact ⟨by rw [HR.out]; rfl, HB1.out⟩
  · have HR : Hid (R = S) := Lib.hid (by
      have : l = [] := List.length_eq_zero_iff.1 hl0
      subst this
      rw [hR, hS]; unfold textE; rw [pcs_mk]; simp [nodeP])
    rw [hl0] at HB1 ⊢
    clear hR hS hT hl0
    go_enter Tryz.func34, Tryz.ntmps34
    go_wp2_with fail
    go_ret
    exact ⟨by rw [HR.out]; rfl, HB1.out⟩
set_option maxRecDepth 100000 in
set_option maxHeartbeats 4000000 in
theorem tx_int (n : Int) (s t : Txt) (ns : List Txt) (l : List Ex) (ops : List (Txt × List Txt)) (bs : List Ex) (hb : -999999999 ≤ n ∧ n ≤ 999999999) : TxR (.mk 1 n s t ns l ops bs) := by
  intro cs w hre
  obtain ⟨An, cn, Al, cl, Aa, ca, rfl, hf, hn, hl, ha, ho⟩ := hre
  show Calls Tryz.prog 34 #[.agg #[.int .i64 1, .int .i64 n, .string (strB s), .string (strB t), .slice An ns.length cn, .slice Al l.length cl, .slice Aa bs.length ca]] w _
  obtain ⟨W1, hW1⟩ : ∃ W1, w.alloc (.cells #[.int .i64 1, .int .i64 n, .string (strB s), .string (strB t), .slice An ns.length cn, .slice Al l.length cl, .slice Aa bs.length ca] 27) = W1 := ⟨_, rfl⟩
  have HB1 : Hid (Below w.heap.size w W1) := Lib.hid (by rw [← hW1]; exact (Below.refl _ _).alloc (Nat.le_refl _) _)
  have HE1 : Hid (EB W1 w.heap.size (.int .i64 1) (.int .i64 n) (.string (strB s)) (.string (strB t)) (.slice An ns.length cn) (.slice Al l.length cl) (.slice Aa bs.length ca)) := Lib.hid (by rw [← hW1]; exact EB.new w _ _ _ _ _ _ _)
  have HD := Lib.hid (fun w => rDigits_any (n.natAbs + 1) n w (by omega) ⟨by omega, by omega⟩)
  obtain ⟨D, hD⟩ : ∃ D, D = strB (Lib.itoa n) := ⟨_, rfl⟩
  have hDz : D.size ≤ 21 := by rw [hD, strB_size]; exact Lib.itoa_length_le n (by omega) (by omega)
  obtain ⟨R, hR⟩ : ∃ R, R = strB (textE (.mk 1 n s t ns l ops bs)) := ⟨_, rfl⟩
  rw [← hR]
  rw [← hD] at HD
  have e0 := HE1.out.c0
  have e1 := HE1.out.c1
  clear hf hn hl ha ho
  by_cases h : n < 0
  · have HR : Hid (R = ⟨#[40]⟩ ++ D ++ ⟨#[41]⟩) := Lib.hid (by
      rw [hR, hD, show textE (.mk 1 n s t ns l ops bs) = [40] ++ Lib.itoa n ++ [41] by unfold textE; rw [pcs_mk]; simp [nodeP, h], strB_cat, strB_cat]; rfl)
    have hd : decide (n < 0) = true := decide_eq_true h
    clear hR hD h
    go_enter Tryz.func34, Tryz.ntmps34
    go_wp2_with fail
    clear hW1
    refine (HD.out _).mono ?_
    rintro r w2 ⟨rfl, rfl⟩
    go_wp2_with fail
    go_ret
    exact ⟨by rw [HR.out]; rfl, HB1.out⟩
  · have HR : Hid (R = D) := Lib.hid (by
      rw [hR, hD, show textE (.mk 1 n s t ns l ops bs) = Lib.itoa n by unfold textE; rw [pcs_mk]; simp [nodeP, h]])
    have hd : decide (n < 0) = false := decide_eq_false h
    clear hR hD h
    go_enter Tryz.func34, Tryz.ntmps34
    go_wp2_with fail
    clear hW1
    refine (HD.out _).mono ?_
    rintro r w2 ⟨rfl, rfl⟩
    go_wp2_with fail
    go_ret
    exact ⟨by rw [HR.out]; rfl, HB1.out⟩
set_option maxRecDepth 100000 in
set_option maxHeartbeats 4000000 in
theorem tx_bool (n : Int) (s t : Txt) (ns : List Txt) (l : List Ex) (ops : List (Txt × List Txt)) (bs : List Ex) (hb : n = 0 ∨ n = 1) : TxR (.mk 2 n s t ns l ops bs) := by
  intro cs w hre
  obtain ⟨An, cn, Al, cl, Aa, ca, rfl, hf, hn, hl, ha, ho⟩ := hre
  show Calls Tryz.prog 34 #[.agg #[.int .i64 2, .int .i64 n, .string (strB s), .string (strB t), .slice An ns.length cn, .slice Al l.length cl, .slice Aa bs.length ca]] w _
  have HB1 := Lib.hid ((Below.refl w.heap.size w).alloc (Nat.le_refl _) (.cells #[.int .i64 2, .int .i64 n, .string (strB s), .string (strB t), .slice An ns.length cn, .slice Al l.length cl, .slice Aa bs.length ca] 27))
  obtain ⟨R, hR⟩ : ∃ R, R = strB (textE (.mk 2 n s t ns l ops bs)) := ⟨_, rfl⟩
  rw [← hR]
  clear hf hn hl ha ho
  rcases hb with rfl | rfl
  · have HR : Hid (R = ⟨#[102, 97, 108, 115, 101]⟩) := Lib.hid (by rw [hR]; unfold textE; rw [pcs_mk]; rfl)
    clear hR
    go_enter Tryz.func34, Tryz.ntmps34
    go_wp2_with fail
    go_ret
    exact ⟨by rw [HR.out]; rfl, HB1.out.alloc HB1.out.size _⟩
  · have HR : Hid (R = ⟨#[116, 114, 117, 101]⟩) := Lib.hid (by rw [hR]; unfold textE; rw [pcs_mk]; rfl)
    clear hR
    go_enter Tryz.func34, Tryz.ntmps34
    go_wp2_with fail
    go_ret
    exact ⟨by rw [HR.out]; rfl, HB1.out.alloc HB1.out.size _⟩
end Go.Proofs.YtndgoefhhjcllaaGreatDoor
/- The reference's listed. -/
namespace Go.Proofs.YtndgoefhhjcllaaGreatDoor
open Go.RowKit

/-- strings that a row owns lie in memory -/
theorem own_names {base : Nat} {w : World} {A : Option Addr} {n c : Nat} {L : List Txt} (hn : n = L.length) (ho : w.ownsRow base 9 1 (.slice A n c) n (L.map fun x => Value.string (strB x))) : NamesAt (fun _ => True) w A L := fun h0 => by
  subst hn
  rcases ho.2 with ⟨e, hz⟩ | ⟨g, cap, cur, e, hbg, hg, _⟩
  · exact absurd (List.length_eq_zero_iff.1 hz) h0
  · injection e with e1 e2 e3
    subst e1; subst e3
    have hlt : g < w.heap.size := (Array.getElem?_eq_some_iff.1 hg).1
    refine ⟨g, 0, rfl, trivial, hlt, fun j x hx => ?_⟩
    have hj := (List.getElem?_eq_some_iff.1 hx).1
    rw [Nat.zero_add, ho.cellAt j (by omega), List.getElem?_map, hx]; rfl
theorem jn_le (l : List Txt) (sep : Txt) (m : Nat) (h : ∀ x ∈ l, x.length ≤ m) : (Lib.join l sep).length ≤ l.length * (m + sep.length) := by
  induction l with
  | nil => simp [Lib.join, List.intercalate]
  | cons a r ih =>
    have h1 := h a (by simp)
    have h2 := ih (fun x hx => h x (by simp [hx]))
    cases r with
    | nil => simp [Lib.join, List.intercalate]; omega
    | cons b r =>
      rw [jn_cons, List.length_append, List.length_append]
      simp only [List.length_cons] at h2 ⊢
      rw [Nat.succ_mul]
      omega
set_option maxRecDepth 100000 in
set_option maxHeartbeats 4000000 in
theorem listed_any (l : List Ex) (hA : ∀ x ∈ l, AtSays x) (hz : ∀ x ∈ l, (atT 0 x).length ≤ 3000002) (hl : l.length ≤ 50) : LsSays l := by
  intro A c w B hP hB
  obtain ⟨i0, hi, hz0, hz1, hz2⟩ := info_parts infoN
  have HP := Lib.hid hP
  have HA := Lib.hid hA
  have HZ := Lib.hid hz
  obtain ⟨n, hn⟩ : ∃ n, n = l.length := ⟨_, rfl⟩
  have HN := Lib.hid hn
  have hn2 : n ≤ 50 := by omega
  obtain ⟨R, hR⟩ : ∃ R, R = strB (lsT l) := ⟨_, rfl⟩
  have HR := Lib.hid hR
  rw [← hn, ← hR]
  clear hP hA hz hl hn hR hB
  go_enter Tryz.func85, Tryz.ntmps85
  go_wp2_with fail
  go_loopw [3, 4] (fun v i wr => ∃ (kk : Nat) (A' : Option Addr) (c' : Nat), kk ≤ n ∧ i = .int .i64 (kk : Int) ∧ v = .slice A' kk c' ∧ Hid (wr.ownsRow w.heap.size 9 1 (.slice A' kk c') kk (((l.take kk).map (atT 0)).map fun x => Value.string (strB x))) ∧ Hid (Below w.heap.size w wr)) (fun _ i _ => n - (intOf i).toNat)
  case atStart => exact ⟨0, none, 0, Nat.zero_le _, rfl, rfl, Lib.hid (World.ownsRow_nil _ _ _ _), Lib.hid (Below.refl _ _)⟩
  case round =>
    obtain ⟨kk, A', c', hkk, rfl, rfl, hO, hB⟩ := hrel
    have j0 : (0 : Int) ≤ (kk : Int) := by omega
    by_cases hkl : kk < n
    · have hkl' : kk < l.length := by rw [← HN.out]; exact hkl
      have j1 : (kk : Int) < (n : Int) := by omega
      obtain ⟨x, hx⟩ : ∃ x, x = l[kk] := ⟨_, rfl⟩
      have HXl : Hid (l[kk]? = some x) := Lib.hid (by rw [hx]; exact List.getElem?_eq_getElem hkl')
      have hxm : x ∈ l := by rw [hx]; exact List.getElem_mem hkl'
      obtain ⟨b, off, rfl⟩ := (HP.out.below hB.out).addr (by omega)
      obtain ⟨⟨hb1, hb2⟩, k0, n0, s0, t0, B0, q0, r0, B1, q1, r1, B2, q2, r2, hc⟩ := (HP.out.below hB.out).at HXl.out
      obtain ⟨X, hX⟩ : ∃ X, X = strB (atT 0 x) := ⟨_, rfl⟩
      have HAt : Hid (∀ w', Below wr.heap.size wr w' → Calls Tryz.prog 83 #[.agg #[.int .i64 k0, .int .i64 n0, .string s0, .string t0, .slice B0 q0 r0, .slice B1 q1 r1, .slice B2 q2 r2], .int .i64 0] w' fun r w2 => r = .returned (.string X) ∧ Below w'.heap.size w' w2) := Lib.hid (fun w' hb => by
        rw [hX]
        exact HA.out x hxm 0 _ _ _ _ _ _ _ _ _ _ _ _ _ w' ((hc.rep.weaken (Q := fun _ => True) (fun _ _ => trivial)).keep (Same.of_below hb)))
      have HTk : Hid ((((l.take (kk + 1)).map (atT 0)).map fun x => Value.string (strB x)) = (((l.take kk).map (atT 0)).map fun x => Value.string (strB x)) ++ [.string X]) := Lib.hid (by
        rw [take_succ_of hkl', List.map_append, List.map_append, ← hx, hX]; rfl)
      have d0 := hc.d0
      have d1 := hc.d1
      have d2 := hc.d2
      have d3 := hc.d3
      have d4 := hc.d4
      have d5 := hc.d5
      have d6 := hc.d6
      clear hX hc hx hxm
      go_wp2_with (first | (go_at_call 83; (with_reducible refine (HAt.out _ (Below.refl _ _)).mono ?_); rintro e w2 ⟨rfl, hb⟩; have HB2 := Lib.hid (hB.out.trans (hb.mono hB.out.size)); have HO2 := Lib.hid (hO.out.kept (grown_below hb none) (by cases (Value.slice A' kk c').ownBlock <;> simp)); clear hb) | (at_builtin; refine wpList_append_own _ rfl _ _ 23 rfl w.heap.size 9 i0 (.string ⟨#[]⟩) 1 16 Tryz.underlying23 hi hz0 hz1 hz2 rfl (by decide) _ _ _ rfl (HO2.out.alloc _) ⟨w2.heap.size, 0, none⟩ 1 1 [.string X] rfl rfl (cell_one_new _ _ _) (by simp [Value.oneCell']) (by unfold maxLen; omega) (by omega) (by have := HB2.out.size; simp; omega) ?_; intro v' w3 hown' hgrow _; obtain ⟨A3, c3, rfl⟩ := own_slice hown'; have HO3 := Lib.hid hown'; have HB3 := Lib.hid ((HB2.out.alloc HB2.out.size _).grown hgrow (by have := HB2.out.size; simp; omega) (fun j e => by have := (HO2.out.lt _ e).1; omega)); clear hown' hgrow))
      go_roundw
      case rel => exact ⟨kk + 1, A3, c3, by omega, by go_num, rfl, Lib.hid (by rw [HTk.out]; exact HO3.out), HB3⟩
      case measure => simp [intOf]; omega
    · obtain rfl : kk = n := by omega
      have HNm : Hid (NamesAt (fun _ => True) wr A' (l.map (atT 0))) := Lib.hid (by
        have h := hO.out
        rw [List.take_of_length_le (by rw [HN.out]; exact Nat.le_refl _)] at h
        exact own_names (by rw [List.length_map]; exact HN.out) h)
      obtain ⟨J, hJ⟩ : ∃ J, J = strB (Lib.join (l.map (atT 0)) [44, 32]) := ⟨_, rfl⟩
      have hJl : (Lib.join (l.map (atT 0)) [44, 32]).length ≤ 200000000 := by
        have h1 := jn_le (l.map (atT 0)) [44, 32] 3000002 (fun x hx => by obtain ⟨y, hy, rfl⟩ := List.mem_map.1 hx; exact HZ.out y hy)
        rw [List.length_map, ← HN.out] at h1
        have h2 : kk * (3000002 + ([44, 32] : Txt).length) ≤ 50 * 3000004 := Nat.mul_le_mul hn2 (by decide)
        omega
      have hJz : J.size ≤ 200000000 := by rw [hJ, strB_size]; exact hJl
      have HJ : Hid (Calls Tryz.prog 87 #[.slice A' kk c', .string ⟨#[44, 32]⟩] wr fun r w2 => r = .returned (.string J) ∧ wr = w2) := Lib.hid (by
        have h1 := rJoined_any (fun _ => True) A' c' (l.map (atT 0)) [44, 32] wr HNm.out (by rw [List.length_map, ← HN.out]; unfold maxLen; omega) (by omega) (by decide)
        rw [List.length_map, ← HN.out] at h1
        rw [hJ]; exact h1)
      have HRr : Hid (R = ⟨#[91]⟩ ++ J ++ ⟨#[93]⟩) := Lib.hid (by
        rw [HR.out, hJ]; unfold lsT; rw [strB_cat, strB_cat]; rfl)
      have hzz1 : ¬ 9223372036854775807 < 1 + J.size := by omega
      have hzz2 : ¬ 9223372036854775807 < 1 + J.size + 1 := by omega
      clear hJ hJl
      go_wp2_with fail
      refine HJ.out.mono ?_
      rintro r w2 ⟨rfl, rfl⟩
      go_wp2_with fail
      go_ret
      exact ⟨by rw [HRr.out]; rfl, hB.out⟩
end Go.Proofs.YtndgoefhhjcllaaGreatDoor
/- The reference's binary. -/
namespace Go.Proofs.YtndgoefhhjcllaaGreatDoor
open Go.RowKit

/-- what the reference's binary answers for a node, by its cells -/
def BinR (e : Ex) : Prop := ∀ (cs : List Value) (w : World), RepE (fun _ => True) w e cs → Calls Tryz.prog 84 #[.agg cs.toArray] w fun r w' => r = .returned (.string (strB (textE e))) ∧ Below w.heap.size w w'
theorem txeq_bin (n : Int) (s t : Txt) (ns : List Txt) (e0 e1 : Ex) (rl : List Ex) (ops : List (Txt × List Txt)) (bs : List Ex) (lv : Int) (h : opLv s = some lv) : textE (.mk 9 n s t ns (e0 :: e1 :: rl) ops bs) = atT (operandLv lv) e0 ++ [32] ++ s ++ [32] ++ atT (lv + 1) e1 := by
  unfold textE atT
  rw [pcs_mk]
  simp [nodeP, nth, h]

set_option maxRecDepth 100000 in
set_option maxHeartbeats 4000000 in
theorem tx_bin1 (n : Int) (s t : Txt) (ns : List Txt) (e0 e1 : Ex) (rl : List Ex) (ops : List (Txt × List Txt)) (bs : List Ex) (hA0 : AtSays e0) (hz0 : (atT 2 e0).length ≤ 3000002) (hA1 : AtSays e1) (hz1 : (atT 2 e1).length ≤ 3000002) (hlv : opLv s = some 1) (hs : s.length ≤ 12) (ht : t.length ≤ 12) : BinR (.mk 9 n s t ns (e0 :: e1 :: rl) ops bs) := by
  intro cs w hre
  have hre2 := hre.tight.weaken (Q := fun b => b < w.heap.size) (fun x hx => hx.2)
  obtain ⟨An, cn, Al, cl, Aa, ca, rfl, hf, hn, hl, ha, ho⟩ := hre2
  show Calls Tryz.prog 84 #[.agg #[.int .i64 9, .int .i64 n, .string (strB s), .string (strB t), .slice An ns.length cn, .slice Al (e0 :: e1 :: rl).length cl, .slice Aa bs.length ca]] w _
  obtain ⟨W1, hW1⟩ : ∃ W1, w.alloc (.cells #[.int .i64 9, .int .i64 n, .string (strB s), .string (strB t), .slice An ns.length cn, .slice Al (e0 :: e1 :: rl).length cl, .slice Aa bs.length ca] 27) = W1 := ⟨_, rfl⟩
  have HB1 : Hid (Below w.heap.size w W1) := Lib.hid (by rw [← hW1]; exact (Below.refl _ _).alloc (Nat.le_refl _) _)
  have HE1 : Hid (EB W1 w.heap.size (.int .i64 9) (.int .i64 n) (.string (strB s)) (.string (strB t)) (.slice An ns.length cn) (.slice Al (e0 :: e1 :: rl).length cl) (.slice Aa bs.length ca)) := Lib.hid (by rw [← hW1]; exact EB.new w _ _ _ _ _ _ _)
  have hlt1 : w.heap.size < W1.heap.size := HE1.out.lt
  have HLv : Hid (∀ w, Calls Tryz.prog 135 #[.agg #[.int .i64 9, .int .i64 n, .string (strB s), .string (strB t), .slice An ns.length cn, .slice Al (e0 :: e1 :: rl).length cl, .slice Aa bs.length ca]] w fun e w' => e = .returned (.int .i64 1) ∧ Below w.heap.size w w') := Lib.hid (fun w => by
    have h := rLevel_any 9 (.int .i64 n) s (.string (strB t)) (.slice An ns.length cn) (.slice Al (e0 :: e1 :: rl).length cl) (.slice Aa bs.length ca) w (fun _ => by rw [hlv]; rfl)
    rw [show lvO 9 s = 1 by unfold lvO; rw [if_pos rfl, hlv]; rfl] at h
    exact h)
  obtain ⟨S, hS⟩ : ∃ S, S = strB s := ⟨_, rfl⟩
  obtain ⟨T, hT⟩ : ∃ T, T = strB t := ⟨_, rfl⟩
  have hSz : S.size ≤ 12 := by rw [hS, strB_size]; exact hs
  have hTz : T.size ≤ 12 := by rw [hT, strB_size]; exact ht
  have hPa : PartsAt w.heap.size w Al (e0 :: e1 :: rl) := parts_of hl
  obtain ⟨b, off, rfl⟩ := hPa.addr (by simp)
  obtain ⟨⟨hb0, _⟩, k0, m0, s0, t0, B0, q0, r0, C0, u0, y0, D0, z0, x0, hc0⟩ := hPa.at (j := 0) (e := e0) rfl
  obtain ⟨X0, hX0⟩ : ∃ X, X = strB (atT 2 e0) := ⟨_, rfl⟩
  have hXz0 : X0.size ≤ 3000002 := by rw [hX0, strB_size]; exact hz0
  have HX0 : Hid (∀ w', PtS W1 w' → Calls Tryz.prog 83 #[.agg #[.int .i64 k0, .int .i64 m0, .string s0, .string t0, .slice B0 q0 r0, .slice C0 u0 y0, .slice D0 z0 x0], .int .i64 2] w' fun r w2 => r = .returned (.string X0) ∧ Below w'.heap.size w' w2) := Lib.hid (fun w' hp => by
    rw [hX0]
    exact hA0 2 _ _ _ _ _ _ _ _ _ _ _ _ _ w' ((hc0.rep.weaken (Q := fun _ => True) (fun _ _ => trivial)).keep (Same.of_below (HB1.out.trans (Below.mono (show Below W1.heap.size W1 w' from hp) HB1.out.size)))))
  obtain ⟨d00, d01, d02, d03, d04, d05, d06⟩ := hc0.up hb0 HB1.out
  simp only [Nat.zero_mul, Nat.add_zero] at d00 d01 d02 d03 d04 d05 d06
  obtain ⟨⟨hb1, _⟩, k1, m1, s1, t1, B1, q1, r1, C1, u1, y1, D1, z1, x1, hc1⟩ := hPa.at (j := 1) (e := e1) rfl
  obtain ⟨X1, hX1⟩ : ∃ X, X = strB (atT 2 e1) := ⟨_, rfl⟩
  have hXz1 : X1.size ≤ 3000002 := by rw [hX1, strB_size]; exact hz1
  have HX1 : Hid (∀ w', PtS W1 w' → Calls Tryz.prog 83 #[.agg #[.int .i64 k1, .int .i64 m1, .string s1, .string t1, .slice B1 q1 r1, .slice C1 u1 y1, .slice D1 z1 x1], .int .i64 2] w' fun r w2 => r = .returned (.string X1) ∧ Below w'.heap.size w' w2) := Lib.hid (fun w' hp => by
    rw [hX1]
    exact hA1 2 _ _ _ _ _ _ _ _ _ _ _ _ _ w' ((hc1.rep.weaken (Q := fun _ => True) (fun _ _ => trivial)).keep (Same.of_below (HB1.out.trans (Below.mono (show Below W1.heap.size W1 w' from hp) HB1.out.size)))))
  obtain ⟨d10, d11, d12, d13, d14, d15, d16⟩ := hc1.up hb1 HB1.out
  simp only [Nat.reduceMul, Nat.add_assoc, Nat.reduceAdd] at d10 d11 d12 d13 d14 d15 d16
  have hblt : b < W1.heap.size := Nat.lt_trans hb0 hlt1
  obtain ⟨R, hR⟩ : ∃ R, R = strB (textE (.mk 9 n s t ns (e0 :: e1 :: rl) ops bs)) := ⟨_, rfl⟩
  have HR : Hid (R = X0 ++ ⟨#[32]⟩ ++ S ++ ⟨#[32]⟩ ++ X1) := Lib.hid (by
    rw [hR, show textE (.mk 9 n s t ns (e0 :: e1 :: rl) ops bs) = atT 2 e0 ++ [32] ++ s ++ [32] ++ atT 2 e1 from by
      exact txeq_bin _ _ _ _ _ _ _ _ _ _ hlv]
    simp only [strB_cat]
    rw [hS, hX0, hX1]
    all_goals rfl)
  rw [← hR]
  rw [← hS, ← hT] at HE1 hW1 HLv
  rw [← hS, ← hT]
  obtain ⟨nn, hnn⟩ : ∃ q, q = ns.length := ⟨_, rfl⟩
  obtain ⟨nl, hnl⟩ : ∃ q, q = (e0 :: e1 :: rl).length := ⟨_, rfl⟩
  obtain ⟨nb, hnb⟩ : ∃ q, q = bs.length := ⟨_, rfl⟩
  rw [← hnn, ← hnl, ← hnb] at HE1 hW1 HLv
  rw [← hnn, ← hnl, ← hnb]
  have i0 : (0 : Int) < (nl : Int) := by rw [hnl]; simp only [List.length_cons]; omega
  have i0n : 0 < nl := by omega
  have i1 : (1 : Int) < (nl : Int) := by rw [hnl]; simp only [List.length_cons]; omega
  have i1n : 1 < nl := by omega
  have hzz1 : ¬ 9223372036854775807 < X0.size + 1 := by omega
  have hzz2 : ¬ 9223372036854775807 < X0.size + 1 + S.size := by omega
  have hzz3 : ¬ 9223372036854775807 < X0.size + 1 + S.size + 1 := by omega
  have hzz4 : ¬ 9223372036854775807 < X0.size + 1 + S.size + 1 + X1.size := by omega
  have e0' := HE1.out.c0
  have e1' := HE1.out.c1
  have e2' := HE1.out.c2
  have e3' := HE1.out.c3
  have e4' := HE1.out.c4
  have e5' := HE1.out.c5
  have e6' := HE1.out.c6
  clear hS hT hR hnn hnl hnb hre hf hl ha ho hs ht hn hX0 hc0 hA0 hz0 hX1 hc1 hA1 hz1 hPa
  have HAll := Lib.hid (fun w' (h : PtS W1 w') => And.intro (PtS.keep h hlt1 e1') (And.intro (PtS.keep h hlt1 e2') (And.intro (PtS.keep h hlt1 e3') (And.intro (PtS.keep h hlt1 e4') (And.intro (PtS.keep h hlt1 e5') (And.intro (PtS.keep h hlt1 e6') (And.intro (PtS.keep h hblt d00) (And.intro (PtS.keep h hblt d01) (And.intro (PtS.keep h hblt d02) (And.intro (PtS.keep h hblt d03) (And.intro (PtS.keep h hblt d04) (And.intro (PtS.keep h hblt d05) (And.intro (PtS.keep h hblt d06) (And.intro (PtS.keep h hblt d10) (And.intro (PtS.keep h hblt d11) (And.intro (PtS.keep h hblt d12) (And.intro (PtS.keep h hblt d13) (And.intro (PtS.keep h hblt d14) (And.intro (PtS.keep h hblt d15) (And.intro (PtS.keep h hblt d16) h))))))))))))))))))))
  have hs0 : PtS W1 W1 := Below.refl _ _
  go_enter Tryz.func84, Tryz.ntmps84
  go_wp2_with fail
  clear hW1
  refine (HLv.out W1).mono ?_
  rintro r w1 ⟨rfl, hb⟩
  have hs1 : PtS W1 w1 := hb
  clear hb
  have hwr : IntKind.i64.wrap 2 = 2 := by decide
  go_wp2_with fail
  go_region_held3 (fun w' => w'.cell? ⟨w.heap.size, 1, none⟩ = some (.int .i64 n) ∧ w'.cell? ⟨w.heap.size, 2, none⟩ = some (.string S) ∧ w'.cell? ⟨w.heap.size, 3, none⟩ = some (.string T) ∧ w'.cell? ⟨w.heap.size, 4, none⟩ = some (.slice An nn cn) ∧ w'.cell? ⟨w.heap.size, 5, none⟩ = some (.slice (some ⟨b, off, none⟩) nl cl) ∧ w'.cell? ⟨w.heap.size, 6, none⟩ = some (.slice Aa nb ca) ∧ w'.cell? ⟨b, off, none⟩ = some (.int .i64 k0) ∧ w'.cell? ⟨b, off + 1, none⟩ = some (.int .i64 m0) ∧ w'.cell? ⟨b, off + 2, none⟩ = some (.string s0) ∧ w'.cell? ⟨b, off + 3, none⟩ = some (.string t0) ∧ w'.cell? ⟨b, off + 4, none⟩ = some (.slice B0 q0 r0) ∧ w'.cell? ⟨b, off + 5, none⟩ = some (.slice C0 u0 y0) ∧ w'.cell? ⟨b, off + 6, none⟩ = some (.slice D0 z0 x0) ∧ w'.cell? ⟨b, off + 7, none⟩ = some (.int .i64 k1) ∧ w'.cell? ⟨b, off + 8, none⟩ = some (.int .i64 m1) ∧ w'.cell? ⟨b, off + 9, none⟩ = some (.string s1) ∧ w'.cell? ⟨b, off + 10, none⟩ = some (.string t1) ∧ w'.cell? ⟨b, off + 11, none⟩ = some (.slice B1 q1 r1) ∧ w'.cell? ⟨b, off + 12, none⟩ = some (.slice C1 u1 y1) ∧ w'.cell? ⟨b, off + 13, none⟩ = some (.slice D1 z1 x1) ∧ PtS W1 w')
    ((refine HAll.out _ ?_; first | assumption | exact hs1.drew | exact .below ‹_› hs1.drew | exact .below ‹_› (.below ‹_› hs1.drew) | exact .below ‹_› (.below ‹_› (.below ‹_› hs1.drew))))
    (first | (go_at_call 83; (with_reducible refine (HX0.out _ (by first | assumption | exact hs1.drew | exact .below ‹_› hs1.drew | exact .below ‹_› (.below ‹_› hs1.drew) | exact .below ‹_› (.below ‹_› (.below ‹_› hs1.drew)))).mono ?_); rintro e w' ⟨rfl, hb⟩) | (go_at_call 83; (with_reducible refine (HX1.out _ (by first | assumption | exact hs1.drew | exact .below ‹_› hs1.drew | exact .below ‹_› (.below ‹_› hs1.drew) | exact .below ‹_› (.below ‹_› (.below ‹_› hs1.drew)))).mono ?_); rintro e w' ⟨rfl, hb⟩))
  rename_i hh
  have HBn := Lib.hid hh.2.2.2.2.2.2.2.2.2.2.2.2.2.2.2.2.2.2.2.2
  clear hh HAll hs0 hs1
  go_wp2_with fail
  go_ret
  exact ⟨by rw [HR.out]; rfl, HB1.out.trans (Below.mono (show Below W1.heap.size W1 _ from HBn.out) HB1.out.size)⟩
set_option maxRecDepth 100000 in
set_option maxHeartbeats 4000000 in
theorem tx_bin2 (n : Int) (s t : Txt) (ns : List Txt) (e0 e1 : Ex) (rl : List Ex) (ops : List (Txt × List Txt)) (bs : List Ex) (hA0 : AtSays e0) (hz0 : (atT 2 e0).length ≤ 3000002) (hA1 : AtSays e1) (hz1 : (atT 3 e1).length ≤ 3000002) (hlv : opLv s = some 2) (hs : s.length ≤ 12) (ht : t.length ≤ 12) : BinR (.mk 9 n s t ns (e0 :: e1 :: rl) ops bs) := by
  intro cs w hre
  have hre2 := hre.tight.weaken (Q := fun b => b < w.heap.size) (fun x hx => hx.2)
  obtain ⟨An, cn, Al, cl, Aa, ca, rfl, hf, hn, hl, ha, ho⟩ := hre2
  show Calls Tryz.prog 84 #[.agg #[.int .i64 9, .int .i64 n, .string (strB s), .string (strB t), .slice An ns.length cn, .slice Al (e0 :: e1 :: rl).length cl, .slice Aa bs.length ca]] w _
  obtain ⟨W1, hW1⟩ : ∃ W1, w.alloc (.cells #[.int .i64 9, .int .i64 n, .string (strB s), .string (strB t), .slice An ns.length cn, .slice Al (e0 :: e1 :: rl).length cl, .slice Aa bs.length ca] 27) = W1 := ⟨_, rfl⟩
  have HB1 : Hid (Below w.heap.size w W1) := Lib.hid (by rw [← hW1]; exact (Below.refl _ _).alloc (Nat.le_refl _) _)
  have HE1 : Hid (EB W1 w.heap.size (.int .i64 9) (.int .i64 n) (.string (strB s)) (.string (strB t)) (.slice An ns.length cn) (.slice Al (e0 :: e1 :: rl).length cl) (.slice Aa bs.length ca)) := Lib.hid (by rw [← hW1]; exact EB.new w _ _ _ _ _ _ _)
  have hlt1 : w.heap.size < W1.heap.size := HE1.out.lt
  have HLv : Hid (∀ w, Calls Tryz.prog 135 #[.agg #[.int .i64 9, .int .i64 n, .string (strB s), .string (strB t), .slice An ns.length cn, .slice Al (e0 :: e1 :: rl).length cl, .slice Aa bs.length ca]] w fun e w' => e = .returned (.int .i64 2) ∧ Below w.heap.size w w') := Lib.hid (fun w => by
    have h := rLevel_any 9 (.int .i64 n) s (.string (strB t)) (.slice An ns.length cn) (.slice Al (e0 :: e1 :: rl).length cl) (.slice Aa bs.length ca) w (fun _ => by rw [hlv]; rfl)
    rw [show lvO 9 s = 2 by unfold lvO; rw [if_pos rfl, hlv]; rfl] at h
    exact h)
  obtain ⟨S, hS⟩ : ∃ S, S = strB s := ⟨_, rfl⟩
  obtain ⟨T, hT⟩ : ∃ T, T = strB t := ⟨_, rfl⟩
  have hSz : S.size ≤ 12 := by rw [hS, strB_size]; exact hs
  have hTz : T.size ≤ 12 := by rw [hT, strB_size]; exact ht
  have hPa : PartsAt w.heap.size w Al (e0 :: e1 :: rl) := parts_of hl
  obtain ⟨b, off, rfl⟩ := hPa.addr (by simp)
  obtain ⟨⟨hb0, _⟩, k0, m0, s0, t0, B0, q0, r0, C0, u0, y0, D0, z0, x0, hc0⟩ := hPa.at (j := 0) (e := e0) rfl
  obtain ⟨X0, hX0⟩ : ∃ X, X = strB (atT 2 e0) := ⟨_, rfl⟩
  have hXz0 : X0.size ≤ 3000002 := by rw [hX0, strB_size]; exact hz0
  have HX0 : Hid (∀ w', PtS W1 w' → Calls Tryz.prog 83 #[.agg #[.int .i64 k0, .int .i64 m0, .string s0, .string t0, .slice B0 q0 r0, .slice C0 u0 y0, .slice D0 z0 x0], .int .i64 2] w' fun r w2 => r = .returned (.string X0) ∧ Below w'.heap.size w' w2) := Lib.hid (fun w' hp => by
    rw [hX0]
    exact hA0 2 _ _ _ _ _ _ _ _ _ _ _ _ _ w' ((hc0.rep.weaken (Q := fun _ => True) (fun _ _ => trivial)).keep (Same.of_below (HB1.out.trans (Below.mono (show Below W1.heap.size W1 w' from hp) HB1.out.size)))))
  obtain ⟨d00, d01, d02, d03, d04, d05, d06⟩ := hc0.up hb0 HB1.out
  simp only [Nat.zero_mul, Nat.add_zero] at d00 d01 d02 d03 d04 d05 d06
  obtain ⟨⟨hb1, _⟩, k1, m1, s1, t1, B1, q1, r1, C1, u1, y1, D1, z1, x1, hc1⟩ := hPa.at (j := 1) (e := e1) rfl
  obtain ⟨X1, hX1⟩ : ∃ X, X = strB (atT 3 e1) := ⟨_, rfl⟩
  have hXz1 : X1.size ≤ 3000002 := by rw [hX1, strB_size]; exact hz1
  have HX1 : Hid (∀ w', PtS W1 w' → Calls Tryz.prog 83 #[.agg #[.int .i64 k1, .int .i64 m1, .string s1, .string t1, .slice B1 q1 r1, .slice C1 u1 y1, .slice D1 z1 x1], .int .i64 3] w' fun r w2 => r = .returned (.string X1) ∧ Below w'.heap.size w' w2) := Lib.hid (fun w' hp => by
    rw [hX1]
    exact hA1 3 _ _ _ _ _ _ _ _ _ _ _ _ _ w' ((hc1.rep.weaken (Q := fun _ => True) (fun _ _ => trivial)).keep (Same.of_below (HB1.out.trans (Below.mono (show Below W1.heap.size W1 w' from hp) HB1.out.size)))))
  obtain ⟨d10, d11, d12, d13, d14, d15, d16⟩ := hc1.up hb1 HB1.out
  simp only [Nat.reduceMul, Nat.add_assoc, Nat.reduceAdd] at d10 d11 d12 d13 d14 d15 d16
  have hblt : b < W1.heap.size := Nat.lt_trans hb0 hlt1
  obtain ⟨R, hR⟩ : ∃ R, R = strB (textE (.mk 9 n s t ns (e0 :: e1 :: rl) ops bs)) := ⟨_, rfl⟩
  have HR : Hid (R = X0 ++ ⟨#[32]⟩ ++ S ++ ⟨#[32]⟩ ++ X1) := Lib.hid (by
    rw [hR, show textE (.mk 9 n s t ns (e0 :: e1 :: rl) ops bs) = atT 2 e0 ++ [32] ++ s ++ [32] ++ atT 3 e1 from by
      exact txeq_bin _ _ _ _ _ _ _ _ _ _ hlv]
    simp only [strB_cat]
    rw [hS, hX0, hX1]
    all_goals rfl)
  rw [← hR]
  rw [← hS, ← hT] at HE1 hW1 HLv
  rw [← hS, ← hT]
  obtain ⟨nn, hnn⟩ : ∃ q, q = ns.length := ⟨_, rfl⟩
  obtain ⟨nl, hnl⟩ : ∃ q, q = (e0 :: e1 :: rl).length := ⟨_, rfl⟩
  obtain ⟨nb, hnb⟩ : ∃ q, q = bs.length := ⟨_, rfl⟩
  rw [← hnn, ← hnl, ← hnb] at HE1 hW1 HLv
  rw [← hnn, ← hnl, ← hnb]
  have i0 : (0 : Int) < (nl : Int) := by rw [hnl]; simp only [List.length_cons]; omega
  have i0n : 0 < nl := by omega
  have i1 : (1 : Int) < (nl : Int) := by rw [hnl]; simp only [List.length_cons]; omega
  have i1n : 1 < nl := by omega
  have hzz1 : ¬ 9223372036854775807 < X0.size + 1 := by omega
  have hzz2 : ¬ 9223372036854775807 < X0.size + 1 + S.size := by omega
  have hzz3 : ¬ 9223372036854775807 < X0.size + 1 + S.size + 1 := by omega
  have hzz4 : ¬ 9223372036854775807 < X0.size + 1 + S.size + 1 + X1.size := by omega
  have e0' := HE1.out.c0
  have e1' := HE1.out.c1
  have e2' := HE1.out.c2
  have e3' := HE1.out.c3
  have e4' := HE1.out.c4
  have e5' := HE1.out.c5
  have e6' := HE1.out.c6
  clear hS hT hR hnn hnl hnb hre hf hl ha ho hs ht hn hX0 hc0 hA0 hz0 hX1 hc1 hA1 hz1 hPa
  have HAll := Lib.hid (fun w' (h : PtS W1 w') => And.intro (PtS.keep h hlt1 e1') (And.intro (PtS.keep h hlt1 e2') (And.intro (PtS.keep h hlt1 e3') (And.intro (PtS.keep h hlt1 e4') (And.intro (PtS.keep h hlt1 e5') (And.intro (PtS.keep h hlt1 e6') (And.intro (PtS.keep h hblt d00) (And.intro (PtS.keep h hblt d01) (And.intro (PtS.keep h hblt d02) (And.intro (PtS.keep h hblt d03) (And.intro (PtS.keep h hblt d04) (And.intro (PtS.keep h hblt d05) (And.intro (PtS.keep h hblt d06) (And.intro (PtS.keep h hblt d10) (And.intro (PtS.keep h hblt d11) (And.intro (PtS.keep h hblt d12) (And.intro (PtS.keep h hblt d13) (And.intro (PtS.keep h hblt d14) (And.intro (PtS.keep h hblt d15) (And.intro (PtS.keep h hblt d16) h))))))))))))))))))))
  have hs0 : PtS W1 W1 := Below.refl _ _
  go_enter Tryz.func84, Tryz.ntmps84
  go_wp2_with fail
  clear hW1
  refine (HLv.out W1).mono ?_
  rintro r w1 ⟨rfl, hb⟩
  have hs1 : PtS W1 w1 := hb
  clear hb
  have hwr : IntKind.i64.wrap 3 = 3 := by decide
  go_wp2_with fail
  go_region_held3 (fun w' => w'.cell? ⟨w.heap.size, 1, none⟩ = some (.int .i64 n) ∧ w'.cell? ⟨w.heap.size, 2, none⟩ = some (.string S) ∧ w'.cell? ⟨w.heap.size, 3, none⟩ = some (.string T) ∧ w'.cell? ⟨w.heap.size, 4, none⟩ = some (.slice An nn cn) ∧ w'.cell? ⟨w.heap.size, 5, none⟩ = some (.slice (some ⟨b, off, none⟩) nl cl) ∧ w'.cell? ⟨w.heap.size, 6, none⟩ = some (.slice Aa nb ca) ∧ w'.cell? ⟨b, off, none⟩ = some (.int .i64 k0) ∧ w'.cell? ⟨b, off + 1, none⟩ = some (.int .i64 m0) ∧ w'.cell? ⟨b, off + 2, none⟩ = some (.string s0) ∧ w'.cell? ⟨b, off + 3, none⟩ = some (.string t0) ∧ w'.cell? ⟨b, off + 4, none⟩ = some (.slice B0 q0 r0) ∧ w'.cell? ⟨b, off + 5, none⟩ = some (.slice C0 u0 y0) ∧ w'.cell? ⟨b, off + 6, none⟩ = some (.slice D0 z0 x0) ∧ w'.cell? ⟨b, off + 7, none⟩ = some (.int .i64 k1) ∧ w'.cell? ⟨b, off + 8, none⟩ = some (.int .i64 m1) ∧ w'.cell? ⟨b, off + 9, none⟩ = some (.string s1) ∧ w'.cell? ⟨b, off + 10, none⟩ = some (.string t1) ∧ w'.cell? ⟨b, off + 11, none⟩ = some (.slice B1 q1 r1) ∧ w'.cell? ⟨b, off + 12, none⟩ = some (.slice C1 u1 y1) ∧ w'.cell? ⟨b, off + 13, none⟩ = some (.slice D1 z1 x1) ∧ PtS W1 w')
    ((refine HAll.out _ ?_; first | assumption | exact hs1.drew | exact .below ‹_› hs1.drew | exact .below ‹_› (.below ‹_› hs1.drew) | exact .below ‹_› (.below ‹_› (.below ‹_› hs1.drew))))
    (first | (go_at_call 83; (with_reducible refine (HX0.out _ (by first | assumption | exact hs1.drew | exact .below ‹_› hs1.drew | exact .below ‹_› (.below ‹_› hs1.drew) | exact .below ‹_› (.below ‹_› (.below ‹_› hs1.drew)))).mono ?_); rintro e w' ⟨rfl, hb⟩) | (go_at_call 83; (with_reducible refine (HX1.out _ (by first | assumption | exact hs1.drew | exact .below ‹_› hs1.drew | exact .below ‹_› (.below ‹_› hs1.drew) | exact .below ‹_› (.below ‹_› (.below ‹_› hs1.drew)))).mono ?_); rintro e w' ⟨rfl, hb⟩))
  rename_i hh
  have HBn := Lib.hid hh.2.2.2.2.2.2.2.2.2.2.2.2.2.2.2.2.2.2.2.2
  clear hh HAll hs0 hs1
  go_wp2_with fail
  go_ret
  exact ⟨by rw [HR.out]; rfl, HB1.out.trans (Below.mono (show Below W1.heap.size W1 _ from HBn.out) HB1.out.size)⟩
set_option maxRecDepth 100000 in
set_option maxHeartbeats 4000000 in
theorem tx_bin3 (n : Int) (s t : Txt) (ns : List Txt) (e0 e1 : Ex) (rl : List Ex) (ops : List (Txt × List Txt)) (bs : List Ex) (hA0 : AtSays e0) (hz0 : (atT 3 e0).length ≤ 3000002) (hA1 : AtSays e1) (hz1 : (atT 4 e1).length ≤ 3000002) (hlv : opLv s = some 3) (hs : s.length ≤ 12) (ht : t.length ≤ 12) : BinR (.mk 9 n s t ns (e0 :: e1 :: rl) ops bs) := by
  intro cs w hre
  have hre2 := hre.tight.weaken (Q := fun b => b < w.heap.size) (fun x hx => hx.2)
  obtain ⟨An, cn, Al, cl, Aa, ca, rfl, hf, hn, hl, ha, ho⟩ := hre2
  show Calls Tryz.prog 84 #[.agg #[.int .i64 9, .int .i64 n, .string (strB s), .string (strB t), .slice An ns.length cn, .slice Al (e0 :: e1 :: rl).length cl, .slice Aa bs.length ca]] w _
  obtain ⟨W1, hW1⟩ : ∃ W1, w.alloc (.cells #[.int .i64 9, .int .i64 n, .string (strB s), .string (strB t), .slice An ns.length cn, .slice Al (e0 :: e1 :: rl).length cl, .slice Aa bs.length ca] 27) = W1 := ⟨_, rfl⟩
  have HB1 : Hid (Below w.heap.size w W1) := Lib.hid (by rw [← hW1]; exact (Below.refl _ _).alloc (Nat.le_refl _) _)
  have HE1 : Hid (EB W1 w.heap.size (.int .i64 9) (.int .i64 n) (.string (strB s)) (.string (strB t)) (.slice An ns.length cn) (.slice Al (e0 :: e1 :: rl).length cl) (.slice Aa bs.length ca)) := Lib.hid (by rw [← hW1]; exact EB.new w _ _ _ _ _ _ _)
  have hlt1 : w.heap.size < W1.heap.size := HE1.out.lt
  have HLv : Hid (∀ w, Calls Tryz.prog 135 #[.agg #[.int .i64 9, .int .i64 n, .string (strB s), .string (strB t), .slice An ns.length cn, .slice Al (e0 :: e1 :: rl).length cl, .slice Aa bs.length ca]] w fun e w' => e = .returned (.int .i64 3) ∧ Below w.heap.size w w') := Lib.hid (fun w => by
    have h := rLevel_any 9 (.int .i64 n) s (.string (strB t)) (.slice An ns.length cn) (.slice Al (e0 :: e1 :: rl).length cl) (.slice Aa bs.length ca) w (fun _ => by rw [hlv]; rfl)
    rw [show lvO 9 s = 3 by unfold lvO; rw [if_pos rfl, hlv]; rfl] at h
    exact h)
  obtain ⟨S, hS⟩ : ∃ S, S = strB s := ⟨_, rfl⟩
  obtain ⟨T, hT⟩ : ∃ T, T = strB t := ⟨_, rfl⟩
  have hSz : S.size ≤ 12 := by rw [hS, strB_size]; exact hs
  have hTz : T.size ≤ 12 := by rw [hT, strB_size]; exact ht
  have hPa : PartsAt w.heap.size w Al (e0 :: e1 :: rl) := parts_of hl
  obtain ⟨b, off, rfl⟩ := hPa.addr (by simp)
  obtain ⟨⟨hb0, _⟩, k0, m0, s0, t0, B0, q0, r0, C0, u0, y0, D0, z0, x0, hc0⟩ := hPa.at (j := 0) (e := e0) rfl
  obtain ⟨X0, hX0⟩ : ∃ X, X = strB (atT 3 e0) := ⟨_, rfl⟩
  have hXz0 : X0.size ≤ 3000002 := by rw [hX0, strB_size]; exact hz0
  have HX0 : Hid (∀ w', PtS W1 w' → Calls Tryz.prog 83 #[.agg #[.int .i64 k0, .int .i64 m0, .string s0, .string t0, .slice B0 q0 r0, .slice C0 u0 y0, .slice D0 z0 x0], .int .i64 3] w' fun r w2 => r = .returned (.string X0) ∧ Below w'.heap.size w' w2) := Lib.hid (fun w' hp => by
    rw [hX0]
    exact hA0 3 _ _ _ _ _ _ _ _ _ _ _ _ _ w' ((hc0.rep.weaken (Q := fun _ => True) (fun _ _ => trivial)).keep (Same.of_below (HB1.out.trans (Below.mono (show Below W1.heap.size W1 w' from hp) HB1.out.size)))))
  obtain ⟨d00, d01, d02, d03, d04, d05, d06⟩ := hc0.up hb0 HB1.out
  simp only [Nat.zero_mul, Nat.add_zero] at d00 d01 d02 d03 d04 d05 d06
  obtain ⟨⟨hb1, _⟩, k1, m1, s1, t1, B1, q1, r1, C1, u1, y1, D1, z1, x1, hc1⟩ := hPa.at (j := 1) (e := e1) rfl
  obtain ⟨X1, hX1⟩ : ∃ X, X = strB (atT 4 e1) := ⟨_, rfl⟩
  have hXz1 : X1.size ≤ 3000002 := by rw [hX1, strB_size]; exact hz1
  have HX1 : Hid (∀ w', PtS W1 w' → Calls Tryz.prog 83 #[.agg #[.int .i64 k1, .int .i64 m1, .string s1, .string t1, .slice B1 q1 r1, .slice C1 u1 y1, .slice D1 z1 x1], .int .i64 4] w' fun r w2 => r = .returned (.string X1) ∧ Below w'.heap.size w' w2) := Lib.hid (fun w' hp => by
    rw [hX1]
    exact hA1 4 _ _ _ _ _ _ _ _ _ _ _ _ _ w' ((hc1.rep.weaken (Q := fun _ => True) (fun _ _ => trivial)).keep (Same.of_below (HB1.out.trans (Below.mono (show Below W1.heap.size W1 w' from hp) HB1.out.size)))))
  obtain ⟨d10, d11, d12, d13, d14, d15, d16⟩ := hc1.up hb1 HB1.out
  simp only [Nat.reduceMul, Nat.add_assoc, Nat.reduceAdd] at d10 d11 d12 d13 d14 d15 d16
  have hblt : b < W1.heap.size := Nat.lt_trans hb0 hlt1
  obtain ⟨R, hR⟩ : ∃ R, R = strB (textE (.mk 9 n s t ns (e0 :: e1 :: rl) ops bs)) := ⟨_, rfl⟩
  have HR : Hid (R = X0 ++ ⟨#[32]⟩ ++ S ++ ⟨#[32]⟩ ++ X1) := Lib.hid (by
    rw [hR, show textE (.mk 9 n s t ns (e0 :: e1 :: rl) ops bs) = atT 3 e0 ++ [32] ++ s ++ [32] ++ atT 4 e1 from by
      exact txeq_bin _ _ _ _ _ _ _ _ _ _ hlv]
    simp only [strB_cat]
    rw [hS, hX0, hX1]
    all_goals rfl)
  rw [← hR]
  rw [← hS, ← hT] at HE1 hW1 HLv
  rw [← hS, ← hT]
  obtain ⟨nn, hnn⟩ : ∃ q, q = ns.length := ⟨_, rfl⟩
  obtain ⟨nl, hnl⟩ : ∃ q, q = (e0 :: e1 :: rl).length := ⟨_, rfl⟩
  obtain ⟨nb, hnb⟩ : ∃ q, q = bs.length := ⟨_, rfl⟩
  rw [← hnn, ← hnl, ← hnb] at HE1 hW1 HLv
  rw [← hnn, ← hnl, ← hnb]
  have i0 : (0 : Int) < (nl : Int) := by rw [hnl]; simp only [List.length_cons]; omega
  have i0n : 0 < nl := by omega
  have i1 : (1 : Int) < (nl : Int) := by rw [hnl]; simp only [List.length_cons]; omega
  have i1n : 1 < nl := by omega
  have hzz1 : ¬ 9223372036854775807 < X0.size + 1 := by omega
  have hzz2 : ¬ 9223372036854775807 < X0.size + 1 + S.size := by omega
  have hzz3 : ¬ 9223372036854775807 < X0.size + 1 + S.size + 1 := by omega
  have hzz4 : ¬ 9223372036854775807 < X0.size + 1 + S.size + 1 + X1.size := by omega
  have e0' := HE1.out.c0
  have e1' := HE1.out.c1
  have e2' := HE1.out.c2
  have e3' := HE1.out.c3
  have e4' := HE1.out.c4
  have e5' := HE1.out.c5
  have e6' := HE1.out.c6
  clear hS hT hR hnn hnl hnb hre hf hl ha ho hs ht hn hX0 hc0 hA0 hz0 hX1 hc1 hA1 hz1 hPa
  have HAll := Lib.hid (fun w' (h : PtS W1 w') => And.intro (PtS.keep h hlt1 e1') (And.intro (PtS.keep h hlt1 e2') (And.intro (PtS.keep h hlt1 e3') (And.intro (PtS.keep h hlt1 e4') (And.intro (PtS.keep h hlt1 e5') (And.intro (PtS.keep h hlt1 e6') (And.intro (PtS.keep h hblt d00) (And.intro (PtS.keep h hblt d01) (And.intro (PtS.keep h hblt d02) (And.intro (PtS.keep h hblt d03) (And.intro (PtS.keep h hblt d04) (And.intro (PtS.keep h hblt d05) (And.intro (PtS.keep h hblt d06) (And.intro (PtS.keep h hblt d10) (And.intro (PtS.keep h hblt d11) (And.intro (PtS.keep h hblt d12) (And.intro (PtS.keep h hblt d13) (And.intro (PtS.keep h hblt d14) (And.intro (PtS.keep h hblt d15) (And.intro (PtS.keep h hblt d16) h))))))))))))))))))))
  have hs0 : PtS W1 W1 := Below.refl _ _
  go_enter Tryz.func84, Tryz.ntmps84
  go_wp2_with fail
  clear hW1
  refine (HLv.out W1).mono ?_
  rintro r w1 ⟨rfl, hb⟩
  have hs1 : PtS W1 w1 := hb
  clear hb
  have hwr : IntKind.i64.wrap 4 = 4 := by decide
  go_wp2_with fail
  go_region_held3 (fun w' => w'.cell? ⟨w.heap.size, 1, none⟩ = some (.int .i64 n) ∧ w'.cell? ⟨w.heap.size, 2, none⟩ = some (.string S) ∧ w'.cell? ⟨w.heap.size, 3, none⟩ = some (.string T) ∧ w'.cell? ⟨w.heap.size, 4, none⟩ = some (.slice An nn cn) ∧ w'.cell? ⟨w.heap.size, 5, none⟩ = some (.slice (some ⟨b, off, none⟩) nl cl) ∧ w'.cell? ⟨w.heap.size, 6, none⟩ = some (.slice Aa nb ca) ∧ w'.cell? ⟨b, off, none⟩ = some (.int .i64 k0) ∧ w'.cell? ⟨b, off + 1, none⟩ = some (.int .i64 m0) ∧ w'.cell? ⟨b, off + 2, none⟩ = some (.string s0) ∧ w'.cell? ⟨b, off + 3, none⟩ = some (.string t0) ∧ w'.cell? ⟨b, off + 4, none⟩ = some (.slice B0 q0 r0) ∧ w'.cell? ⟨b, off + 5, none⟩ = some (.slice C0 u0 y0) ∧ w'.cell? ⟨b, off + 6, none⟩ = some (.slice D0 z0 x0) ∧ w'.cell? ⟨b, off + 7, none⟩ = some (.int .i64 k1) ∧ w'.cell? ⟨b, off + 8, none⟩ = some (.int .i64 m1) ∧ w'.cell? ⟨b, off + 9, none⟩ = some (.string s1) ∧ w'.cell? ⟨b, off + 10, none⟩ = some (.string t1) ∧ w'.cell? ⟨b, off + 11, none⟩ = some (.slice B1 q1 r1) ∧ w'.cell? ⟨b, off + 12, none⟩ = some (.slice C1 u1 y1) ∧ w'.cell? ⟨b, off + 13, none⟩ = some (.slice D1 z1 x1) ∧ PtS W1 w')
    ((refine HAll.out _ ?_; first | assumption | exact hs1.drew | exact .below ‹_› hs1.drew | exact .below ‹_› (.below ‹_› hs1.drew) | exact .below ‹_› (.below ‹_› (.below ‹_› hs1.drew))))
    (first | (go_at_call 83; (with_reducible refine (HX0.out _ (by first | assumption | exact hs1.drew | exact .below ‹_› hs1.drew | exact .below ‹_› (.below ‹_› hs1.drew) | exact .below ‹_› (.below ‹_› (.below ‹_› hs1.drew)))).mono ?_); rintro e w' ⟨rfl, hb⟩) | (go_at_call 83; (with_reducible refine (HX1.out _ (by first | assumption | exact hs1.drew | exact .below ‹_› hs1.drew | exact .below ‹_› (.below ‹_› hs1.drew) | exact .below ‹_› (.below ‹_› (.below ‹_› hs1.drew)))).mono ?_); rintro e w' ⟨rfl, hb⟩))
  rename_i hh
  have HBn := Lib.hid hh.2.2.2.2.2.2.2.2.2.2.2.2.2.2.2.2.2.2.2.2
  clear hh HAll hs0 hs1
  go_wp2_with fail
  go_ret
  exact ⟨by rw [HR.out]; rfl, HB1.out.trans (Below.mono (show Below W1.heap.size W1 _ from HBn.out) HB1.out.size)⟩
set_option maxRecDepth 100000 in
set_option maxHeartbeats 4000000 in
theorem tx_prim (n : Int) (s t : Txt) (ns : List Txt) (l : List Ex) (ops : List (Txt × List Txt)) (bs : List Ex) (hB : BinR (.mk 9 n s t ns l ops bs)) : TxR (.mk 9 n s t ns l ops bs) := by
  intro cs w hre
  have hB2 := fun w' (hb : Below w.heap.size w w') => hB cs w' (hre.keep (Same.of_below hb))
  obtain ⟨An, cn, Al, cl, Aa, ca, rfl, hf, hn, hl, ha, ho⟩ := hre
  have HB : Hid (∀ w', Below w.heap.size w w' → Calls Tryz.prog 84 #[.agg #[.int .i64 9, .int .i64 n, .string (strB s), .string (strB t), .slice An ns.length cn, .slice Al l.length cl, .slice Aa bs.length ca]] w' fun r w2 => r = .returned (.string (strB (textE (.mk 9 n s t ns l ops bs)))) ∧ Below w'.heap.size w' w2) := Lib.hid hB2
  show Calls Tryz.prog 34 #[.agg #[.int .i64 9, .int .i64 n, .string (strB s), .string (strB t), .slice An ns.length cn, .slice Al l.length cl, .slice Aa bs.length ca]] w _
  obtain ⟨W1, hW1⟩ : ∃ W1, w.alloc (.cells #[.int .i64 9, .int .i64 n, .string (strB s), .string (strB t), .slice An ns.length cn, .slice Al l.length cl, .slice Aa bs.length ca] 27) = W1 := ⟨_, rfl⟩
  have HB1 : Hid (Below w.heap.size w W1) := Lib.hid (by rw [← hW1]; exact (Below.refl _ _).alloc (Nat.le_refl _) _)
  have HE1 : Hid (EB W1 w.heap.size (.int .i64 9) (.int .i64 n) (.string (strB s)) (.string (strB t)) (.slice An ns.length cn) (.slice Al l.length cl) (.slice Aa bs.length ca)) := Lib.hid (by rw [← hW1]; exact EB.new w _ _ _ _ _ _ _)
  obtain ⟨R, hR⟩ : ∃ R, R = strB (textE (.mk 9 n s t ns l ops bs)) := ⟨_, rfl⟩
  rw [← hR] at HB ⊢
  have e0 := HE1.out.c0
  have e1 := HE1.out.c1
  have e2 := HE1.out.c2
  have e3 := HE1.out.c3
  have e4 := HE1.out.c4
  have e5 := HE1.out.c5
  have e6 := HE1.out.c6
  clear hf hn hl ha ho hR hB hB2
  go_enter Tryz.func34, Tryz.ntmps34
  go_wp2_with fail
  clear hW1
  refine (HB.out W1 HB1.out).mono ?_
  rintro r w2 ⟨rfl, hb⟩
  have HB2 := Lib.hid (HB1.out.trans (hb.mono HB1.out.size))
  clear hb
  go_wp2_with fail
  go_ret
  exact ⟨rfl, HB2.out⟩

end Go.Proofs.YtndgoefhhjcllaaGreatDoor
