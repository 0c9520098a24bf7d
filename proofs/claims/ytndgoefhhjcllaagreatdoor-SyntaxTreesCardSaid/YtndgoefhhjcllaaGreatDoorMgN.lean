/- Texts put together by program: RTxL RShow LawTr. -/
import Derived.Test.YtndgoefhhjcllaaGreatDoorMgK
import Derived.Test.YtndgoefhhjcllaaGreatDoorMgL
import Derived.Test.YtndgoefhhjcllaaGreatDoorMgJ
import Derived.Test.YtndgoefhhjcllaaGreatDoorMgM
import Derived.Test.YtndgoefhhjcllaaGreatDoorMgI
/- The reference's text of every well-formed expression; its Show. -/
namespace Go.Proofs.YtndgoefhhjcllaaGreatDoor
open Go.RowKit

theorem one_of {α : Type} {l : List α} (h : l.length = 1) : ∃ a, l = [a] := List.length_eq_one_iff.1 h
theorem two_of {α : Type} {l : List α} (h : l.length = 2) : ∃ a b, l = [a, b] := by
  match l, h with
  | [a, b], _ => exact ⟨a, b, rfl⟩
theorem cons1_of {α : Type} {l : List α} (h : 1 ≤ l.length) : ∃ a r, l = a :: r := by
  match l, h with
  | a :: r, _ => exact ⟨a, r, rfl⟩
theorem cons2_of {α : Type} {l : List α} (h : 2 ≤ l.length) : ∃ a b r, l = a :: b :: r := by
  match l, h with
  | a :: b :: r, _ => exact ⟨a, b, r, rfl⟩
theorem cons3_of {α : Type} {l : List α} (h : 3 ≤ l.length) : ∃ a b c r, l = a :: b :: c :: r := by
  match l, h with
  | a :: b :: c :: r, _ => exact ⟨a, b, c, r, rfl⟩
theorem szL_mem {l : List Ex} {x : Ex} (h : x ∈ l) : (nodesE 1 x).length ≤ szL l := by
  induction l with
  | nil => simp at h
  | cons y r ih =>
    have e : szL (y :: r) = (nodesE 1 y).length + szL r := by unfold szL; simp
    rcases List.mem_cons.1 h with rfl | h
    · omega
    · have := ih h; omega
theorem lsT_len {l : List Ex} (hl : l.length ≤ 4) (h : ∀ x ∈ l, (atT 0 x).length ≤ 3000002) : (lsT l).length ≤ 30000000 := by
  have h1 := jn_le (l.map (atT 0)) [44, 32] 3000002 (fun y hy => by obtain ⟨x, hx, rfl⟩ := List.mem_map.1 hy; exact h x hx)
  rw [List.length_map] at h1
  have h2 : l.length * (3000002 + ([44, 32] : Txt).length) ≤ 4 * 3000004 := Nat.mul_le_mul hl (by decide)
  unfold lsT
  rw [List.length_append, List.length_append]
  simp only [List.length_cons, List.length_nil]
  omega
theorem clT_len {ops : List (Txt × List Txt)} {bs : List Ex} (hl : bs.length ≤ 9) (h : ∀ x ∈ bs, (atT 0 x).length ≤ 3000002) (ho : ∀ o ∈ ops, o.1.length ≤ 12 ∧ o.2.length ≤ 4 ∧ ∀ x ∈ o.2, x.length ≤ 12) : (clT ops bs).length ≤ 30000000 := by
  unfold clT
  split
  · decide
  · have h1 := jn_le (List.zipWith arT ops bs) [59, 32] 3000200 (fun y hy => by
      obtain ⟨i, hi, rfl⟩ := List.getElem_of_mem hy
      rw [List.getElem_zipWith]
      rw [List.length_zipWith] at hi
      have hb := h bs[i] (List.getElem_mem (by omega))
      have ho := ho ops[i] (List.getElem_mem (by omega))
      have h2 := jn_le (ops[i].1 :: ops[i].2) [32] 12 (fun y hy => by
        rcases List.mem_cons.1 hy with rfl | hy
        · exact ho.1
        · exact ho.2.2 y hy)
      have h3 : (ops[i].1 :: ops[i].2).length * (12 + ([32] : Txt).length) ≤ 5 * 13 := Nat.mul_le_mul (by simp only [List.length_cons]; have := ho.2.1; omega) (by decide)
      unfold arT
      rw [List.length_append, List.length_append]
      simp only [List.length_cons, List.length_nil]
      omega)
    have hz : (List.zipWith arT ops bs).length ≤ 9 := by rw [List.length_zipWith]; omega
    have h2 : (List.zipWith arT ops bs).length * (3000200 + ([59, 32] : Txt).length) ≤ 9 * 3000202 := Nat.mul_le_mul hz (by decide)
    rw [List.length_append, List.length_append]
    simp only [List.length_cons, List.length_nil]
    omega
theorem bit_of {n : Int} (h : numHas 1 n = true) : n = 0 ∨ n = 1 := by simpa [numHas] using h
theorem tx_rule (e : Ex) (h0 : chkN e = 0) (hl : ∀ x ∈ e.l, AtSays x ∧ ∀ a, (atT a x).length ≤ 3000002) (hb : ∀ x ∈ e.bs, AtSays x ∧ ∀ a, (atT a x).length ≤ 3000002) : TxR e := by
  cases e with
  | mk k n s t ns l ops bs =>
  simp only [Ex.l, Ex.bs] at hl hb
  obtain ⟨kn, H⟩ := shape_of h0
  have hsm := small_of H
  obtain ⟨hk, lt, num, s1, t1, names, parts, room, _, _⟩ := H
  subst hk
  have hp := cnt_ge parts
  have hn := cnt_ge names
  have hC : ClSays ops bs := clauses_any ops bs (fun x hx => (hb x hx).1) (fun x hx => (hb x hx).2 0) (Nat.le_trans hsm.hnb (by decide)) hsm.hops
  have hCz := clT_len (ops := ops) hsm.hnb (fun x hx => (hb x hx).2 0) hsm.hops
  have hs := hsm.hs
  have ht := hsm.ht
  obtain rfl | rfl | rfl | rfl | rfl | rfl | rfl | rfl | rfl | rfl | rfl | rfl | rfl | rfl | rfl | rfl | rfl | rfl | rfl | rfl : kn = 0 ∨ kn = 1 ∨ kn = 2 ∨ kn = 3 ∨ kn = 4 ∨ kn = 5 ∨ kn = 6 ∨ kn = 7 ∨ kn = 8 ∨ kn = 9 ∨ kn = 10 ∨ kn = 11 ∨ kn = 12 ∨ kn = 13 ∨ kn = 14 ∨ kn = 15 ∨ kn = 16 ∨ kn = 17 ∨ kn = 18 ∨ kn = 19 := by omega
  · exact tx_leaf 0 n s t ns l ops bs (.inl rfl) hs
  · exact tx_int n s t ns l ops bs (numHas_bd num)
  · exact tx_bool n s t ns l ops bs (bit_of (by rw [show useOf 2 0 = 1 by decide] at num; exact num))
  · exact tx_leaf 3 n s t ns l ops bs (.inr (.inl rfl)) hs
  · obtain ⟨a0, rfl⟩ := one_of (l := ns) (by have h1 : useOf 4 3 = 1 := (by decide); have h2 : useOf 4 4 = 0 := (by decide); omega)
    obtain ⟨e0, rl, rfl⟩ := cons1_of (len_ge hp.1 (b := 1) (by decide))
    exact tx_fun n s t a0 e0 rl ops bs (hl e0 (by simp)).1 ((hl e0 (by simp)).2 0) hs ht (hsm.hns.2 a0 (by simp))
  · obtain ⟨e0, e1, rl, rfl⟩ := cons2_of (len_ge hp.1 (b := 2) (by decide))
    exact tx_app n s t ns e0 e1 rl ops bs (hl e0 (by simp)).1 ((hl e0 (by simp)).2 4) (hl e1 (by simp)).1 ((hl e1 (by simp)).2 5) hs ht
  · obtain ⟨a0, rfl⟩ := one_of (l := ns) (by have h1 : useOf 6 3 = 1 := (by decide); have h2 : useOf 6 4 = 0 := (by decide); omega)
    obtain ⟨e0, e1, rl, rfl⟩ := cons2_of (len_ge hp.1 (b := 2) (by decide))
    exact tx_let n s t a0 e0 e1 rl ops bs (hl e0 (by simp)).1 ((hl e0 (by simp)).2 0) (hl e1 (by simp)).1 ((hl e1 (by simp)).2 0) hs ht (hsm.hns.2 a0 (by simp))
  · obtain ⟨a0, a1, rfl⟩ := two_of (l := ns) (by have h1 : useOf 7 3 = 2 := (by decide); have h2 : useOf 7 4 = 0 := (by decide); omega)
    obtain ⟨e0, e1, rl, rfl⟩ := cons2_of (len_ge hp.1 (b := 2) (by decide))
    exact tx_rec n s t a0 a1 e0 e1 rl ops bs (hl e0 (by simp)).1 ((hl e0 (by simp)).2 0) (hl e1 (by simp)).1 ((hl e1 (by simp)).2 0) hs ht (hsm.hns.2 a0 (by simp)) (hsm.hns.2 a1 (by simp))
  · obtain ⟨e0, e1, e2, rl, rfl⟩ := cons3_of (len_ge hp.1 (b := 3) (by decide))
    exact tx_if n s t ns e0 e1 e2 rl ops bs (hl e0 (by simp)).1 ((hl e0 (by simp)).2 0) (hl e1 (by simp)).1 ((hl e1 (by simp)).2 0) (hl e2 (by simp)).1 ((hl e2 (by simp)).2 0) hs ht
  · obtain ⟨e0, e1, rl, rfl⟩ := cons2_of (len_ge hp.1 (b := 2) (by decide))
    have ho9 : (opLv s).isSome = true := by simpa [nameHas, show useOf 9 1 = 4 by decide] using s1
    obtain ⟨lv, hlv⟩ := Option.isSome_iff_exists.1 ho9
    have hlb : lv = 1 ∨ lv = 2 ∨ lv = 3 := by
      unfold opLv at hlv
      split at hlv
      · injection hlv with h; omega
      · split at hlv
        · injection hlv with h; omega
        · split at hlv
          · injection hlv with h; omega
          · cases hlv
    rcases hlb with rfl | rfl | rfl
    · exact tx_prim n s t ns _ ops bs (tx_bin1 n s t ns e0 e1 rl ops bs (hl e0 (by simp)).1 ((hl e0 (by simp)).2 2) (hl e1 (by simp)).1 ((hl e1 (by simp)).2 2) hlv hs ht)
    · exact tx_prim n s t ns _ ops bs (tx_bin2 n s t ns e0 e1 rl ops bs (hl e0 (by simp)).1 ((hl e0 (by simp)).2 2) (hl e1 (by simp)).1 ((hl e1 (by simp)).2 3) hlv hs ht)
    · exact tx_prim n s t ns _ ops bs (tx_bin3 n s t ns e0 e1 rl ops bs (hl e0 (by simp)).1 ((hl e0 (by simp)).2 3) (hl e1 (by simp)).1 ((hl e1 (by simp)).2 4) hlv hs ht)
  · by_cases h0 : l.length = 0
    · exact tx_leaf 10 n s t ns l ops bs (.inr (.inr (.inr ⟨rfl, h0⟩))) hs
    · exact tx_con n s t ns l ops bs hs ht (listed_any l (fun x hx => (hl x hx).1) (fun x hx => (hl x hx).2 0) (Nat.le_trans hsm.hnl (by decide))) (lsT_len hsm.hnl (fun x hx => (hl x hx).2 0)) (by omega)
  · obtain ⟨e0, rl, rfl⟩ := cons1_of (len_ge hp.1 (b := 1) (by decide))
    exact tx_match n s t ns e0 rl ops bs (hl e0 (by simp)).1 ((hl e0 (by simp)).2 0) hs ht hC hCz
  · obtain ⟨e0, rl, rfl⟩ := cons1_of (len_ge hp.1 (b := 1) (by decide))
    exact tx_do n s t ns e0 rl ops bs (hl e0 (by simp)).1 ((hl e0 (by simp)).2 5) hs ht
  · obtain ⟨e0, rl, rfl⟩ := cons1_of (len_ge hp.1 (b := 1) (by decide))
    exact tx_atk n s t ns e0 rl ops bs (hl e0 (by simp)).1 ((hl e0 (by simp)).2 5) hs ht
  · obtain ⟨e0, rl, rfl⟩ := cons1_of (len_ge hp.1 (b := 1) (by decide))
    rcases bit_of (by rw [show useOf 14 0 = 1 by decide] at num; exact num) with rfl | rfl
    · exact tx_handle0 s t ns e0 rl ops bs (hl e0 (by simp)).1 ((hl e0 (by simp)).2 0) hs ht hC hCz
    · exact tx_handle1 s t ns e0 rl ops bs (hl e0 (by simp)).1 ((hl e0 (by simp)).2 0) hs ht hC hCz
  · obtain ⟨a0, rfl⟩ := one_of (l := ns) (by have h1 : useOf 15 3 = 1 := (by decide); have h2 : useOf 15 4 = 0 := (by decide); omega)
    obtain ⟨e0, rl, rfl⟩ := cons1_of (len_ge hp.1 (b := 1) (by decide))
    exact tx_named n s t a0 e0 rl ops bs (hl e0 (by simp)).1 ((hl e0 (by simp)).2 0) hs ht (hsm.hns.2 a0 (by simp)) hC hCz
  · obtain ⟨e0, rl, rfl⟩ := cons1_of (len_ge hp.1 (b := 1) (by decide))
    exact tx_mask n s t ns e0 rl ops bs (hl e0 (by simp)).1 ((hl e0 (by simp)).2 5) hs ht
  · obtain ⟨a0, rn, rfl⟩ := cons1_of (len_ge hn.1 (b := 1) (by decide))
    obtain ⟨e0, e1, e2, rl, rfl⟩ := cons3_of (len_ge hp.1 (b := 3) (by decide))
    have hr : rn.length ≤ 12 := by have h1 : useOf 17 3 = 1 := (by decide); have h2 : useOf 17 4 = 12 := (by decide); have := hn.2; simp only [List.length_cons] at this; omega
    have hj := join_len rn [44, 32] (fun x hx => hsm.hns.2 x (by simp [hx])) rfl
    exact tx_using n s t a0 rn e0 e1 e2 rl ops bs (hl e0 (by simp)).1 ((hl e0 (by simp)).2 0) (hl e1 (by simp)).1 ((hl e1 (by simp)).2 0) (hl e2 (by simp)).1 ((hl e2 (by simp)).2 0) hs ht (hsm.hns.2 a0 (by simp)) hr (by omega)
  · obtain ⟨e0, rl, rfl⟩ := cons1_of (len_ge hp.1 (b := 1) (by decide))
    exact tx_resume n s t ns e0 rl ops bs (hl e0 (by simp)).1 ((hl e0 (by simp)).2 5) hs ht
  · exact tx_leaf 19 n s t ns l ops bs (.inr (.inr (.inl rfl))) hs
theorem tx_all : ∀ e, TxSays e := by
  refine Ex.ind fun e ih hwf hz => ?_
  have key : TxR e := by
    obtain ⟨h0, h1, h2⟩ : chkN e = 0 ∧ (∀ x ∈ e.l, wfE x) ∧ ∀ x ∈ e.bs, wfE x := by cases e; exact hwf.parts
    have hsz := size_parts e
    have hall : ∀ x ∈ e.parts, wfE x → AtSays x ∧ ∀ a, (atT a x).length ≤ 3000002 := fun x hx hw => by
      have h3 : (nodesE 1 x).length ≤ 3000 := by have := szL_mem hx; unfold szL at this; omega
      exact ⟨at_any x (ih x hx) hw h3, fun a => atT_len a hw h3⟩
    exact tx_rule e h0 (fun x hx => hall x (List.mem_append_left _ hx) (h1 x hx)) (fun x hx => hall x (List.mem_append_right _ hx) (h2 x hx))
  intro k n s t A0 n0 c0 A1 n1 c1 A2 n2 c2 w hre
  exact key _ w hre
end Go.Proofs.YtndgoefhhjcllaaGreatDoor
/- The reference's Show. -/
namespace Go.Proofs.YtndgoefhhjcllaaGreatDoor
open Go.RowKit

set_option maxRecDepth 100000 in
set_option maxHeartbeats 4000000 in
theorem rShow_any (e : Ex) (hok : NmOk e) (k n : Int) (s t : ByteArray) (A0 : Option Addr) (n0 c0 : Nat) (A1 : Option Addr) (n1 c1 : Nat) (A2 : Option Addr) (n2 c2 : Nat) (w : World) (hre : RepE (fun _ => True) w e [.int .i64 k, .int .i64 n, .string s, .string t, .slice A0 n0 c0, .slice A1 n1 c1, .slice A2 n2 c2]) :
    Calls Tryz.prog 11 #[.agg #[.int .i64 k, .int .i64 n, .string s, .string t, .slice A0 n0 c0, .slice A1 n1 c1, .slice A2 n2 c2]] w fun r w' => r = .returned (.tuple #[.string (strB (showS e).1), .int .i64 (showS e).2]) ∧ Below w.heap.size w w' := by
  obtain ⟨W1, hW1⟩ : ∃ W1, w.alloc (.cells #[.int .i64 k, .int .i64 n, .string s, .string t, .slice A0 n0 c0, .slice A1 n1 c1, .slice A2 n2 c2] 27) = W1 := ⟨_, rfl⟩
  have HB1 : Hid (Below w.heap.size w W1) := Lib.hid (by rw [← hW1]; exact (Below.refl _ _).alloc (Nat.le_refl _) _)
  have HE1 : Hid (EB W1 w.heap.size (.int .i64 k) (.int .i64 n) (.string s) (.string t) (.slice A0 n0 c0) (.slice A1 n1 c1) (.slice A2 n2 c2)) := Lib.hid (by rw [← hW1]; exact EB.new w _ _ _ _ _ _ _)
  have HC := Lib.hid (fun w' (hb : Below w.heap.size w w') => rCheck_any e hok k n s t A0 n0 c0 A1 n1 c1 A2 n2 c2 w' (hre.keep (Same.of_below hb)))
  obtain ⟨V, hV⟩ : ∃ V, V = (msd chkN e).2.2 := ⟨_, rfl⟩
  rw [← hV] at HC
  have e0 := HE1.out.c0
  have e1 := HE1.out.c1
  have e2 := HE1.out.c2
  have e3 := HE1.out.c3
  have e4 := HE1.out.c4
  have e5 := HE1.out.c5
  have e6 := HE1.out.c6
  obtain ⟨X, hX⟩ : ∃ X, X = showS e := ⟨_, rfl⟩
  rw [← hX]
  by_cases hv : V = 0
  · have hko := msd_ok (hV.symm.trans hv)
    have HT := Lib.hid (fun w' (hb : Below w.heap.size w w') => tx_all e hko.1 hko.2.1 k n s t A0 n0 c0 A1 n1 c1 A2 n2 c2 w' (hre.keep (Same.of_below hb)))
    have HR : Hid (X = (textE e, 0)) := Lib.hid (by rw [hX]; unfold showS; exact if_pos (hV.symm.trans hv))
    clear hV hX hko hre hok
    subst hv
    go_enter Tryz.func11, Tryz.ntmps11
    go_wp2_with fail
    clear hW1
    refine (HC.out W1 HB1.out).mono ?_
    rintro r w2 ⟨rfl, hb⟩
    have HB2 := Lib.hid (HB1.out.trans (hb.mono HB1.out.size))
    have HE2 := Lib.hid (HE1.out.kept (grown_below hb none) (by simp))
    clear hb e0 e1 e2 e3 e4 e5 e6
    have e0 := HE2.out.c0
    have e1 := HE2.out.c1
    have e2 := HE2.out.c2
    have e3 := HE2.out.c3
    have e4 := HE2.out.c4
    have e5 := HE2.out.c5
    have e6 := HE2.out.c6
    go_wp2_with fail
    refine (HT.out w2 HB2.out).mono ?_
    rintro r w3 ⟨rfl, hb⟩
    have HB3 := Lib.hid (HB2.out.trans (hb.mono HB2.out.size))
    clear hb
    go_wp2_with fail
    go_ret2
    exact ⟨by rw [HR.out]; rfl, HB3.out⟩
  · have HR : Hid (X = ([], V)) := Lib.hid (by rw [hX]; unfold showS; rw [← hV]; exact if_neg hv)
    have hvb : (V == 0) = false := by simpa using hv
    clear hV hX hv hre hok
    go_enter Tryz.func11, Tryz.ntmps11
    go_wp2_with fail
    clear hW1
    refine (HC.out W1 HB1.out).mono ?_
    rintro r w2 ⟨rfl, hb⟩
    have HB2 := Lib.hid (HB1.out.trans (hb.mono HB1.out.size))
    clear hb e0 e1 e2 e3 e4 e5 e6
    go_wp2_with fail
    go_ret2
    exact ⟨by rw [HR.out]; rfl, HB2.out⟩
end Go.Proofs.YtndgoefhhjcllaaGreatDoor
/- SyntaxTrees: Check, Size, Depth and Show answer as the reference does, for every expression. -/
namespace Go.Proofs.YtndgoefhhjcllaaGreatDoor
open Go.RowKit

set_option maxRecDepth 100000 in
set_option maxHeartbeats 8000000 in
theorem trees_law (e : Ex) (k n : Int) (s t : ByteArray) (A0 : Option Addr) (n0 c0 : Nat) (A1 : Option Addr) (n1 c1 : Nat) (A2 : Option Addr) (n2 c2 : Nat) (w : World)
    (hre : RepE (fun _ => True) w e [.int .i64 k, .int .i64 n, .string s, .string t, .slice A0 n0 c0, .slice A1 n1 c1, .slice A2 n2 c2]) (hEn : EnvS w) :
    Calls Tryz.prog 3 #[.agg #[.int .i64 k, .int .i64 n, .string s, .string t, .slice A0 n0 c0, .slice A1 n1 c1, .slice A2 n2 c2]] w fun r w' => r = .returned (.bool true) ∧ Below w.heap.size w w' := by
  obtain ⟨w1, hW1⟩ : ∃ W1, w.alloc (.cells #[.int .i64 k, .int .i64 n, .string s, .string t, .slice A0 n0 c0, .slice A1 n1 c1, .slice A2 n2 c2] 27) = W1 := ⟨_, rfl⟩
  have HB1 : Hid (Below w.heap.size w w1) := Lib.hid (by rw [← hW1]; exact (Below.refl _ _).alloc (Nat.le_refl _) _)
  have HE1 : Hid (EB w1 w.heap.size (.int .i64 k) (.int .i64 n) (.string s) (.string t) (.slice A0 n0 c0) (.slice A1 n1 c1) (.slice A2 n2 c2)) := Lib.hid (by rw [← hW1]; exact EB.new w _ _ _ _ _ _ _)
  have HRe := Lib.hid hre
  have HEv := Lib.hid (RepE.evn e ⟨_, hre⟩)
  have HEn := Lib.hid hEn
  have HG := Lib.hid (fun w' (hb : Below w.heap.size w w') => Great_any (fun _ => True) e (.int .i64 k) (.int .i64 n) (.string s) (.string t) (.slice A0 n0 c0) (.slice A1 n1 c1) (.slice A2 n2 c2) w' (HRe.out.keep (Same.of_below hb)))
  obtain ⟨G, hG⟩ : ∃ G, G = great e := ⟨_, rfl⟩
  rw [← hG] at HG
  have e0 := HE1.out.c0
  have e1 := HE1.out.c1
  have e2 := HE1.out.c2
  have e3 := HE1.out.c3
  have e4 := HE1.out.c4
  have e5 := HE1.out.c5
  have e6 := HE1.out.c6
  have hz : w.heap.size < w1.heap.size := HE1.out.lt
  clear hre hEn
  cases G with
  | true =>
    clear hG
    go_enter Tryz.func3, Tryz.ntmps3
    go_wp2_with fail
    clear hW1
    refine (HG.out w1 HB1.out).mono ?_
    rintro r w2 ⟨rfl, hb⟩
    have HB2 := Lib.hid (HB1.out.trans (hb.mono HB1.out.size))
    clear hb e0 e1 e2 e3 e4 e5 e6
    go_wp2_with fail
    refine (shows_any w2 (HEn.out.below HB2.out)).mono ?_
    rintro r w3 ⟨rfl, hb⟩
    have HB3 := Lib.hid (HB2.out.trans (hb.mono HB2.out.size))
    clear hb
    go_wp2_with fail
    go_ret
    exact ⟨rfl, HB3.out⟩
  | false =>
    have hgr := great_hE HEv.out hG.symm
    have hok := great_ok HEv.out hG.symm
    have HhE : Hid (hE e ≤ 900000) := Lib.hid (by omega)
    obtain ⟨V, hV⟩ : ∃ V, V = (msd chkN e).2.2 := ⟨_, rfl⟩
    obtain ⟨D, hD⟩ : ∃ V, V = (msd chkN e).2.1 := ⟨_, rfl⟩
    obtain ⟨Z, hZ⟩ : ∃ V, V = (msd chkN e).1 := ⟨_, rfl⟩
    obtain ⟨T, hT⟩ : ∃ V, V = strB (showS e).1 := ⟨_, rfl⟩
    obtain ⟨U, hU⟩ : ∃ V, V = (showS e).2 := ⟨_, rfl⟩
    have HC : Hid (∀ w', Below w.heap.size w w' → Calls Tryz.prog 12 #[.agg #[.int .i64 k, .int .i64 n, .string s, .string t, .slice A0 n0 c0, .slice A1 n1 c1, .slice A2 n2 c2]] w' fun r w2 => r = .returned (.int .i64 V) ∧ Below w'.heap.size w' w2) := Lib.hid (fun w' hb => by
      have := Check_any chkN (Lib.hid chkN_says) _ e k n s t A0 n0 c0 A1 n1 c1 A2 n2 c2 w' (HRe.out.keep (Same.of_below hb)) HhE.out (HEn.out.below hb).2.1
      rw [← hV] at this; exact this)
    have HRC : Hid (∀ w', Below w.heap.size w w' → Calls Tryz.prog 13 #[.agg #[.int .i64 k, .int .i64 n, .string s, .string t, .slice A0 n0 c0, .slice A1 n1 c1, .slice A2 n2 c2]] w' fun r w2 => r = .returned (.int .i64 V) ∧ Below w'.heap.size w' w2) := Lib.hid (fun w' hb => by
      have := rCheck_any e hok k n s t A0 n0 c0 A1 n1 c1 A2 n2 c2 w' (HRe.out.keep (Same.of_below hb))
      rw [← hV] at this; exact this)
    have HZ : Hid (∀ w', Below w.heap.size w w' → Calls Tryz.prog 14 #[.agg #[.int .i64 k, .int .i64 n, .string s, .string t, .slice A0 n0 c0, .slice A1 n1 c1, .slice A2 n2 c2]] w' fun r w2 => r = .returned (.int .i64 Z) ∧ Below w'.heap.size w' w2) := Lib.hid (fun w' hb => by
      have := Size_any chkN (Lib.hid chkN_says) _ e k n s t A0 n0 c0 A1 n1 c1 A2 n2 c2 w' (HRe.out.keep (Same.of_below hb)) HhE.out (HEn.out.below hb).2.1
      rw [← hZ] at this; exact this)
    have HRZ : Hid (∀ w', Below w.heap.size w w' → Calls Tryz.prog 15 #[.agg #[.int .i64 k, .int .i64 n, .string s, .string t, .slice A0 n0 c0, .slice A1 n1 c1, .slice A2 n2 c2]] w' fun r w2 => r = .returned (.int .i64 Z) ∧ Below w'.heap.size w' w2) := Lib.hid (fun w' hb => by
      have := rSize_any e hok k n s t A0 n0 c0 A1 n1 c1 A2 n2 c2 w' (HRe.out.keep (Same.of_below hb))
      rw [← hZ] at this; exact this)
    have HD : Hid (∀ w', Below w.heap.size w w' → Calls Tryz.prog 16 #[.agg #[.int .i64 k, .int .i64 n, .string s, .string t, .slice A0 n0 c0, .slice A1 n1 c1, .slice A2 n2 c2]] w' fun r w2 => r = .returned (.int .i64 D) ∧ Below w'.heap.size w' w2) := Lib.hid (fun w' hb => by
      have := Depth_any chkN (Lib.hid chkN_says) _ e k n s t A0 n0 c0 A1 n1 c1 A2 n2 c2 w' (HRe.out.keep (Same.of_below hb)) HhE.out (HEn.out.below hb).2.1
      rw [← hD] at this; exact this)
    have HRD : Hid (∀ w', Below w.heap.size w w' → Calls Tryz.prog 17 #[.agg #[.int .i64 k, .int .i64 n, .string s, .string t, .slice A0 n0 c0, .slice A1 n1 c1, .slice A2 n2 c2]] w' fun r w2 => r = .returned (.int .i64 D) ∧ Below w'.heap.size w' w2) := Lib.hid (fun w' hb => by
      have := rDepth_any e hok k n s t A0 n0 c0 A1 n1 c1 A2 n2 c2 w' (HRe.out.keep (Same.of_below hb))
      rw [← hD] at this; exact this)
    have HS : Hid (∀ w', Below w.heap.size w w' → Calls Tryz.prog 10 #[.agg #[.int .i64 k, .int .i64 n, .string s, .string t, .slice A0 n0 c0, .slice A1 n1 c1, .slice A2 n2 c2]] w' fun r w2 => r = .returned (.tuple #[.string T, .int .i64 U]) ∧ Below w'.heap.size w' w2) := Lib.hid (fun w' hb => by
      have := Show_any _ e k n s t A0 n0 c0 A1 n1 c1 A2 n2 c2 w' (HRe.out.keep (Same.of_below hb)) HhE.out (HEn.out.below hb).2.1 (HEn.out.below hb).2.2
      rw [← hT, ← hU] at this; exact this)
    have HRS : Hid (∀ w', Below w.heap.size w w' → Calls Tryz.prog 11 #[.agg #[.int .i64 k, .int .i64 n, .string s, .string t, .slice A0 n0 c0, .slice A1 n1 c1, .slice A2 n2 c2]] w' fun r w2 => r = .returned (.tuple #[.string T, .int .i64 U]) ∧ Below w'.heap.size w' w2) := Lib.hid (fun w' hb => by
      have := rShow_any e hok k n s t A0 n0 c0 A1 n1 c1 A2 n2 c2 w' (HRe.out.keep (Same.of_below hb))
      rw [← hT, ← hU] at this; exact this)
    clear hV hD hZ hT hU hG hgr hok
    go_enter Tryz.func3, Tryz.ntmps3
    go_wp2_with fail
    clear hW1
    refine (HG.out w1 HB1.out).mono ?_
    rintro r w2 ⟨rfl, hb⟩
    have HB2 := Lib.hid (HB1.out.trans (hb.mono HB1.out.size))
    have HE2 := Lib.hid (HE1.out.kept (grown_below hb none) (by simp))
    clear hb e0 e1 e2 e3 e4 e5 e6
    have e0 := HE2.out.c0
    have e1 := HE2.out.c1
    have e2 := HE2.out.c2
    have e3 := HE2.out.c3
    have e4 := HE2.out.c4
    have e5 := HE2.out.c5
    have e6 := HE2.out.c6
    go_wp2_with fail
    refine (HS.out w2 HB2.out).mono ?_
    rintro r w3 ⟨rfl, hb⟩
    have HB3 := Lib.hid (HB2.out.trans (hb.mono HB2.out.size))
    have HE3 := Lib.hid (HE2.out.kept (grown_below hb none) (by simp))
    clear hb e0 e1 e2 e3 e4 e5 e6
    have e0 := HE3.out.c0
    have e1 := HE3.out.c1
    have e2 := HE3.out.c2
    have e3 := HE3.out.c3
    have e4 := HE3.out.c4
    have e5 := HE3.out.c5
    have e6 := HE3.out.c6
    go_wp2_with fail
    refine (HRS.out w3 HB3.out).mono ?_
    rintro r w4 ⟨rfl, hb⟩
    have HB4 := Lib.hid (HB3.out.trans (hb.mono HB3.out.size))
    have HE4 := Lib.hid (HE3.out.kept (grown_below hb none) (by simp))
    clear hb e0 e1 e2 e3 e4 e5 e6
    have e0 := HE4.out.c0
    have e1 := HE4.out.c1
    have e2 := HE4.out.c2
    have e3 := HE4.out.c3
    have e4 := HE4.out.c4
    have e5 := HE4.out.c5
    have e6 := HE4.out.c6
    go_wp2_with fail
    have hs0 : PtS w4 w4 := Below.refl _ _
    have hz4 : w.heap.size < w4.heap.size := HE4.out.lt
    have HP : Hid (∀ w', PtS w4 w' → Below w.heap.size w w') := Lib.hid (fun w' h => HB4.out.trans (Below.mono (show Below w4.heap.size w4 w' from h) HB4.out.size))
    have HAll : Hid (∀ w', PtS w4 w' → w'.cell? ⟨w.heap.size, 0, none⟩ = some (.int .i64 k) ∧ w'.cell? ⟨w.heap.size, 1, none⟩ = some (.int .i64 n) ∧ w'.cell? ⟨w.heap.size, 2, none⟩ = some (.string s) ∧ w'.cell? ⟨w.heap.size, 3, none⟩ = some (.string t) ∧ w'.cell? ⟨w.heap.size, 4, none⟩ = some (.slice A0 n0 c0) ∧ w'.cell? ⟨w.heap.size, 5, none⟩ = some (.slice A1 n1 c1) ∧ w'.cell? ⟨w.heap.size, 6, none⟩ = some (.slice A2 n2 c2) ∧ PtS w4 w') := Lib.hid (fun w' h => ⟨PtS.keep h hz4 HE4.out.c0, PtS.keep h hz4 HE4.out.c1, PtS.keep h hz4 HE4.out.c2, PtS.keep h hz4 HE4.out.c3, PtS.keep h hz4 HE4.out.c4, PtS.keep h hz4 HE4.out.c5, PtS.keep h hz4 HE4.out.c6, h⟩)
    have HLst : Hid (∀ w', (w'.cell? ⟨w.heap.size, 0, none⟩ = some (.int .i64 k) ∧ w'.cell? ⟨w.heap.size, 1, none⟩ = some (.int .i64 n) ∧ w'.cell? ⟨w.heap.size, 2, none⟩ = some (.string s) ∧ w'.cell? ⟨w.heap.size, 3, none⟩ = some (.string t) ∧ w'.cell? ⟨w.heap.size, 4, none⟩ = some (.slice A0 n0 c0) ∧ w'.cell? ⟨w.heap.size, 5, none⟩ = some (.slice A1 n1 c1) ∧ w'.cell? ⟨w.heap.size, 6, none⟩ = some (.slice A2 n2 c2) ∧ PtS w4 w') → PtS w4 w') := Lib.hid (fun w' h => h.2.2.2.2.2.2.2)
    clear e0 e1 e2 e3 e4 e5 e6
    go_region_held3 (fun w' => w'.cell? ⟨w.heap.size, 0, none⟩ = some (.int .i64 k) ∧ w'.cell? ⟨w.heap.size, 1, none⟩ = some (.int .i64 n) ∧ w'.cell? ⟨w.heap.size, 2, none⟩ = some (.string s) ∧ w'.cell? ⟨w.heap.size, 3, none⟩ = some (.string t) ∧ w'.cell? ⟨w.heap.size, 4, none⟩ = some (.slice A0 n0 c0) ∧ w'.cell? ⟨w.heap.size, 5, none⟩ = some (.slice A1 n1 c1) ∧ w'.cell? ⟨w.heap.size, 6, none⟩ = some (.slice A2 n2 c2) ∧ PtS w4 w')
      ((refine HAll.out _ ?_; first | assumption | exact PtS.drew hs0 | exact PtS.below (by assumption) (HLst.out _ (by assumption)) | exact PtS.below (by assumption) (PtS.drew hs0)))
      (first | (go_at_call 12; (with_reducible refine (HC.out _ (HP.out _ (by first | exact HLst.out _ (by assumption) | exact PtS.drew hs0))).mono ?_); rintro e' w' ⟨rfl, hb⟩) | (go_at_call 13; (with_reducible refine (HRC.out _ (HP.out _ (by first | exact HLst.out _ (by assumption) | exact PtS.drew hs0))).mono ?_); rintro e' w' ⟨rfl, hb⟩) | (go_at_call 14; (with_reducible refine (HZ.out _ (HP.out _ (by first | exact HLst.out _ (by assumption) | exact PtS.drew hs0))).mono ?_); rintro e' w' ⟨rfl, hb⟩) | (go_at_call 15; (with_reducible refine (HRZ.out _ (HP.out _ (by first | exact HLst.out _ (by assumption) | exact PtS.drew hs0))).mono ?_); rintro e' w' ⟨rfl, hb⟩) | (go_at_call 16; (with_reducible refine (HD.out _ (HP.out _ (by first | exact HLst.out _ (by assumption) | exact PtS.drew hs0))).mono ?_); rintro e' w' ⟨rfl, hb⟩) | (go_at_call 17; (with_reducible refine (HRD.out _ (HP.out _ (by first | exact HLst.out _ (by assumption) | exact PtS.drew hs0))).mono ?_); rintro e' w' ⟨rfl, hb⟩) | (go_at_call 9; (with_reducible refine (shows_any _ (HEn.out.below (HP.out _ (by first | exact HLst.out _ (by assumption) | exact PtS.drew hs0)))).mono ?_); rintro e' w' ⟨rfl, hb⟩))
    rename_i hh
    have HBn := Lib.hid (HP.out _ (HLst.out _ hh))
    clear hh HAll HLst hs0 HP
    go_wp2_with fail
    go_ret
    exact ⟨rfl, HBn.out⟩
end Go.Proofs.YtndgoefhhjcllaaGreatDoor
