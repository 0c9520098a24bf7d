/- Texts put together by program: PrN PrO PrP PrQ PrR PrS PrU PrV PrW PrX PrY Shows. -/
import Derived.Test.YtbmicnajedeenaaGreatDoorMgE
import Derived.Test.YtbmicnajedeenaaGreatDoorMgD
import Derived.Test.YtbmicnajedeenaaGreatDoorMgA
import Derived.Test.YtbmicnajedeenaaGreatDoorMgC
import Derived.Lib.ItoaLen
import Derived.Lib.UnsafeStr
/- The printer: lists of expressions; Con. -/
namespace Go.Proofs.YtbmicnajedeenaaGreatDoor
open Go.RowKit

theorem listP_snoc (sep : Txt) : ∀ (xs : List (List Txt)) (y : List Txt), listP sep (xs ++ [y]) = listP sep xs ++ (if xs = [] then y else [sep] ++ y)
  | [], y => by simp [listP]
  | x :: r, y => by simp [listP]
theorem listP_prefix (sep : Txt) (xs : List (List Txt)) (k : Nat) : listP sep (xs.take k) <+: listP sep xs := by
  cases xs with
  | nil => simp [listP]
  | cons x r =>
    cases k with
    | zero => simp [listP]
    | succ k =>
      simp only [List.take_succ_cons, listP]
      refine (List.prefix_append_right_inj _).2 ⟨(r.drop k).flatMap fun y => [sep] ++ y, ?_⟩
      rw [← List.flatMap_append, List.take_append_drop]
theorem cell_blk {w : World} {q : Nat} {v : Value} {T : TypeId} (h : w.heap[q]? = some (.cells #[v] T (0, 0))) : w.cell? ⟨q, 0, none⟩ = some v := cell_of_row w q 0 _ _ (0, 0) h

set_option maxRecDepth 100000 in
set_option maxHeartbeats 2000000 in
theorem conClos_any (B p x m : Nat) (lim : Int) (bs : Txt) (q : Nat) (e : Ex) (k n : Int) (s t : ByteArray) (A0 : Option Addr) (n0 c0 : Nat) (A1 : Option Addr) (n1 c1 : Nat) (A2 : Option Addr) (n2 c2 : Nat) (w : World) (h : Pr B p x m lim bs w) (hS : ExprSays e) (hq : w.heap[q]? = some (.cells #[.pointer (some ⟨p, 0, none⟩)] 84 (0, 0)))
    (hre : RepE (fun b => b < B) w e [.int .i64 k, .int .i64 n, .string s, .string t, .slice A0 n0 c0, .slice A1 n1 c1, .slice A2 n2 c2]) (hlen : bs.length + tot (atP 0 e.lp) ≤ 140737488355328) :
    Calls Tryz.prog 106 #[.agg #[.int .i64 k, .int .i64 n, .string s, .string t, .slice A0 n0 c0, .slice A1 n1 c1, .slice A2 n2 c2], .pointer (some ⟨q, 0, none⟩)] w fun e' w' => e' = .returned (.tuple #[]) ∧ PrF B p x m lim (wrs lim bs (atP 0 e.lp)) w w' := by
  obtain ⟨W1, hW1⟩ : ∃ W1, w.alloc (.cells #[.int .i64 k, .int .i64 n, .string s, .string t, .slice A0 n0 c0, .slice A1 n1 c1, .slice A2 n2 c2] 30) = W1 := ⟨_, rfl⟩
  have HF1 : Hid (PrF B p x m lim bs w W1) := Lib.hid (by rw [← hW1]; exact (PrF.refl h).below ((Below.refl _ _).alloc (Nat.le_refl _) _))
  have HE1 : Hid (EB W1 w.heap.size (.int .i64 k) (.int .i64 n) (.string s) (.string t) (.slice A0 n0 c0) (.slice A1 n1 c1) (.slice A2 n2 c2)) := Lib.hid (by rw [← hW1]; exact EB.new w _ _ _ _ _ _ _)
  have hq1 : W1.cell? ⟨q, 0, none⟩ = some (.pointer (some ⟨p, 0, none⟩)) := by rw [← hW1]; exact cell_blk ((Lib.alloc_old w _ q (Array.getElem?_eq_some_iff.1 hq).1).trans hq)
  have HX := Lib.hid (hS B p x m lim bs 0 _ W1 HF1.out.1 (hre.keep HF1.out.2.same) hlen)
  have d0 := HE1.out.c0
  have d1 := HE1.out.c1
  have d2 := HE1.out.c2
  have d3 := HE1.out.c3
  have d4 := HE1.out.c4
  have d5 := HE1.out.c5
  have d6 := HE1.out.c6
  clear h hS hq hre hlen
  go_enter Tryz.func106, Tryz.ntmps106
  go_wp2_with fail
  clear hW1
  refine HX.out.mono ?_
  rintro e w4 ⟨rfl, hp4⟩
  have HP4 := Lib.hid (HF1.out.then hp4)
  clear hp4 d0 d1 d2 d3 d4 d5 d6
  go_wp2_with fail
  go_end0
  exact ⟨rfl, HP4.out⟩

/-- the pieces of a list of expressions -/
def lsP (sep : Txt) (l : List Ex) : List Txt := listP sep (l.map fun e => atP 0 e.lp)
theorem lsP_snoc (sep : Txt) (l : List Ex) (e : Ex) : lsP sep (l ++ [e]) = lsP sep l ++ (if l = [] then atP 0 e.lp else [sep] ++ atP 0 e.lp) := by
  unfold lsP
  rw [List.map_append, List.map_cons, List.map_nil, listP_snoc]
  cases l <;> simp
theorem lsP_prefix (sep : Txt) (l : List Ex) (k : Nat) : lsP sep (l.take k) <+: lsP sep l := by
  unfold lsP; rw [List.map_take]; exact listP_prefix _ _ _

set_option maxRecDepth 100000 in
set_option maxHeartbeats 4000000 in
theorem listE_any (B p x m : Nat) (lim : Int) (bs : Txt) (A : Option Addr) (c q : Nat) (l : List Ex) (sep : Txt) (w : World) (h : Pr B p x m lim bs w) (hS : ∀ e ∈ l, ExprSays e) (hP : PartsAt B w A l) (hq : w.heap[q]? = some (.cells #[.pointer (some ⟨p, 0, none⟩)] 84 (0, 0))) (hl : l.length ≤ maxLen) (hlen : bs.length + tot (lsP sep l) ≤ 140737488355328) :
    Calls Tryz.prog 105 #[.pointer (some ⟨p, 0, none⟩), .slice A l.length c, .string (strB sep), .func (.func 106) #[] #[.pointer (some ⟨q, 0, none⟩)]] w fun e w' => e = .returned (.tuple #[]) ∧ PrF B p x m lim (wrs lim bs (lsP sep l)) w w' := by
  have HP := Lib.hid h
  have HPa := Lib.hid hP
  have HLn := Lib.hid hlen
  have HS := Lib.hid hS
  have HQ := Lib.hid hq
  have HQp : Hid (q ≠ p) := Lib.hid (fun e => by
    subst e
    obtain ⟨_, _, _, ⟨a, v, _, hh, _⟩, _⟩ := h
    rw [hq] at hh
    injection hh with hh
    injection hh with hh
    exact absurd (congrArg Array.size hh) (by simp))
  obtain ⟨n, hnn⟩ : ∃ n, n = l.length := ⟨_, rfl⟩
  have HL := Lib.hid hnn
  unfold maxLen at hl
  rw [← hnn] at hl ⊢
  clear h hP hlen hS hnn hq
  go_enter Tryz.func105, Tryz.ntmps105
  go_wp2_with fail
  go_loopw [12] (fun i wr => ∃ k : Nat, k ≤ n ∧ i = .int .i64 (k : Int) ∧ Hid (PrF B p x m lim (wrs lim bs (lsP sep (l.take k))) w wr)) (fun i _ => n - (intOf i).toNat)
  case atStart => exact ⟨0, Nat.zero_le _, rfl, Lib.hid ⟨HP.out, FrP.refl _ _ _⟩⟩
  case round =>
    obtain ⟨k, hk, rfl, hPF⟩ := hrel
    have i0 : (0 : Int) ≤ (k : Int) := by omega
    by_cases hkl : k < n
    · have hke : k < l.length := by rw [← HL.out]; exact hkl
      have i1 : (k : Int) < (n : Int) := by omega
      obtain ⟨e, he⟩ : ∃ e, e = l[k] := ⟨_, rfl⟩
      have HEl : Hid (l[k]? = some e) := Lib.hid (by rw [he]; exact List.getElem?_eq_getElem hke)
      have HE := Lib.hid (HS.out e (by rw [he]; exact List.getElem_mem hke))
      have HTk : Hid (lsP sep (l.take (k + 1)) = lsP sep (l.take k) ++ (if k = 0 then atP 0 e.lp else [sep] ++ atP 0 e.lp)) := Lib.hid (by
        rw [take_succ_of hke, lsP_snoc, ← he]
        congr 1
        by_cases h0 : k = 0
        · subst h0; rfl
        · rw [if_neg h0, if_neg (fun h => h0 (by have := congrArg List.length h; rw [List.length_take, List.length_nil] at this; omega))])
      have HB : Hid ((wrs lim bs (lsP sep (l.take k))).length + tot (if k = 0 then atP 0 e.lp else [sep] ++ atP 0 e.lp) ≤ 140737488355328) := Lib.hid (by
        have h1 := wrs_len lim (lsP sep (l.take k)) bs
        have h2 := tot_prefix (lsP_prefix sep l (k + 1))
        rw [HTk.out, tot_append] at h2
        have := HLn.out
        omega)
      obtain ⟨b, off, rfl⟩ := HPa.out.addr (by omega)
      obtain ⟨⟨hb1, hb2⟩, k0, n0, s0, t0, B0, q0, r0, B1, q1, r1, B2, q2, r2, hc⟩ := (HPa.out.fr hPF.out.2).at HEl.out
      obtain ⟨bs1, hbs1⟩ : ∃ b, b = wrs lim bs (lsP sep (l.take k)) := ⟨_, rfl⟩
      have HT2 : Hid (wrs lim bs (lsP sep (l.take (k + 1))) = wrs lim bs1 (if k = 0 then atP 0 e.lp else [sep] ++ atP 0 e.lp)) := Lib.hid (by rw [HTk.out, wrs_append, hbs1])
      rw [← hbs1] at hPF HB
      obtain ⟨W1, hW1⟩ : ∃ W1, wr.alloc (.cells #[.int .i64 k0, .int .i64 n0, .string s0, .string t0, .slice B0 q0 r0, .slice B1 q1 r1, .slice B2 q2 r2] 30) = W1 := ⟨_, rfl⟩
      have HF1 : Hid (PrF B p x m lim bs1 w W1) := Lib.hid (by rw [← hW1]; exact hPF.out.below ((Below.refl _ _).alloc (Nat.le_refl _) _))
      have HE1 : Hid (EB W1 wr.heap.size (.int .i64 k0) (.int .i64 n0) (.string s0) (.string t0) (.slice B0 q0 r0) (.slice B1 q1 r1) (.slice B2 q2 r2)) := Lib.hid (by rw [← hW1]; exact EB.new wr _ _ _ _ _ _ _)
      have HRe : Hid (RepE (fun b => b < B) W1 e [.int .i64 k0, .int .i64 n0, .string s0, .string t0, .slice B0 q0 r0, .slice B1 q1 r1, .slice B2 q2 r2]) := Lib.hid (by rw [← hW1]; exact hc.rep.keep (Same.of_grown (World.grownBy_alloc wr _ none) (fun _ _ => by simp)))
      have hgp : wr.heap.size ≠ p := by have := hPF.out.1.ltp; omega
      have d0 := hc.d0
      have d1 := hc.d1
      have d2 := hc.d2
      have d3 := hc.d3
      have d4 := hc.d4
      have d5 := hc.d5
      have d6 := hc.d6
      have g0 := HE1.out.c0
      have g1 := HE1.out.c1
      have g2 := HE1.out.c2
      have g3 := HE1.out.c3
      have g4 := HE1.out.c4
      have g5 := HE1.out.c5
      have g6 := HE1.out.c6
      clear hc hbs1 he
      by_cases hk0 : k = 0
      · have HB2 : Hid (bs1.length + tot (atP 0 e.lp) ≤ 140737488355328) := Lib.hid (by have := HB.out; rwa [if_pos hk0] at this)
        have HT3 : Hid (wrs lim bs (lsP sep (l.take (k + 1))) = wrs lim bs1 (atP 0 e.lp)) := Lib.hid (by rw [HT2.out, if_pos hk0])
        have HC := Lib.hid (conClos_any B p x m lim bs1 q e k0 n0 s0 t0 B0 q0 r0 B1 q1 r1 B2 q2 r2 W1 HF1.out.1 HE.out (HF1.out.2.blk HQ.out (by decide) HQp.out) HRe.out HB2.out)
        subst hk0
        simp only [Nat.zero_mul, Nat.add_zero] at d0 d1 d2 d3 d4 d5 d6
        have j0 : (0 : Int) < (n : Int) := by omega
        have j1 : 0 < n := by omega
        go_wp2_with fail
        clear hW1
        refine HC.out.mono ?_
        rintro e' w3 ⟨rfl, hp3⟩
        have HP3 : Hid (PrF B p x m lim (wrs lim bs (lsP sep (l.take (0 + 1)))) w w3) := Lib.hid (by rw [HT3.out]; exact HF1.out.then hp3)
        clear hp3 d0 d1 d2 d3 d4 d5 d6 g0 g1 g2 g3 g4 g5 g6 HC
        go_wp2_with fail
        go_roundw
        case rel => exact ⟨0 + 1, by omega, by go_num, HP3⟩
        case measure => simp [intOf]; omega
      · have hd : decide (0 < (k : Int)) = true := by simp; omega
        have hd2 : 0 < k := by omega
        have HB2 : Hid (bs1.length + tot [sep] ≤ 140737488355328) := Lib.hid (by have := HB.out; rw [if_neg hk0, tot_append] at this; omega)
        have HB3 : Hid ((wrs lim bs1 [sep]).length + tot (atP 0 e.lp) ≤ 140737488355328) := Lib.hid (by have := HB.out; rw [if_neg hk0, tot_append] at this; have h4 := wrs_len lim [sep] bs1; omega)
        have HT3 : Hid (wrs lim bs (lsP sep (l.take (k + 1))) = wrs lim (wrs lim bs1 [sep]) (atP 0 e.lp)) := Lib.hid (by rw [HT2.out, if_neg hk0, wrs_append])
        clear hk0
        go_wp2_with fail
        clear hW1
        refine (write_new [sep] W1 HF1.out (by simp) HB2.out).mono ?_
        rintro e' w2 ⟨rfl, hp2, hf2⟩
        have HP2 := Lib.hid hp2
        have HE2 := Lib.hid (HE1.out.fr' hf2 hgp)
        have HC := Lib.hid (conClos_any B p x m lim _ q e k0 n0 s0 t0 B0 q0 r0 B1 q1 r1 B2 q2 r2 w2 hp2.1 HE.out (hp2.2.blk HQ.out (by decide) HQp.out) (HRe.out.keep hf2.same) HB3.out)
        clear hp2 hf2 d0 d1 d2 d3 d4 d5 d6 g0 g1 g2 g3 g4 g5 g6
        have g0 := HE2.out.c0
        have g1 := HE2.out.c1
        have g2 := HE2.out.c2
        have g3 := HE2.out.c3
        have g4 := HE2.out.c4
        have g5 := HE2.out.c5
        have g6 := HE2.out.c6
        go_wp2_with fail
        refine HC.out.mono ?_
        rintro e' w3 ⟨rfl, hp3⟩
        have HP3 : Hid (PrF B p x m lim (wrs lim bs (lsP sep (l.take (k + 1)))) w w3) := Lib.hid (by rw [HT3.out]; exact HP2.out.then hp3)
        clear hp3 g0 g1 g2 g3 g4 g5 g6 HC
        go_wp2_with fail
        go_roundw
        case rel => exact ⟨k + 1, by omega, by go_num, HP3⟩
        case measure => simp [intOf]; omega
    · obtain rfl : k = n := by omega
      have HE : Hid (PrF B p x m lim (wrs lim bs (lsP sep l)) w wr) := Lib.hid (by have := hPF.out; rwa [HL.out, List.take_length] at this)
      go_wp2_with fail
      go_end0
      exact ⟨rfl, HE.out⟩
end Go.Proofs.YtbmicnajedeenaaGreatDoor
/- The printer's function for Con. -/
namespace Go.Proofs.YtbmicnajedeenaaGreatDoor
open Go.RowKit

set_option maxRecDepth 100000 in
set_option maxHeartbeats 4000000 in
theorem rule_con (n : Int) (s t : Txt) (ns : List Txt) (l : List Ex) (ops : List (Txt × List Txt)) (bs2 : List Ex) (hS : ∀ e ∈ l, ExprSays e) : RuleSays (.mk 10 n s t ns l ops bs2) := by
  intro B p x m lim bs cs w hP hre hlen
  obtain ⟨An, cn, Al, cl, Aa, ca, rfl, hf, hn, hl, ha, ho⟩ := hre
  show Calls Tryz.prog 68 #[.pointer (some ⟨p, 0, none⟩), .agg #[.int .i64 10, .int .i64 n, .string (strB s), .string (strB t), .slice An ns.length cn, .slice Al l.length cl, .slice Aa bs2.length ca]] w _
  obtain ⟨W0, hW0⟩ : ∃ W0, w.alloc (.cells #[.pointer (some ⟨p, 0, none⟩)] 84) = W0 := ⟨_, rfl⟩
  have hz : W0.heap.size = w.heap.size + 1 := by rw [← hW0]; simp
  have HQ0 : Hid (W0.heap[w.heap.size]? = some (.cells #[.pointer (some ⟨p, 0, none⟩)] 84 (0, 0))) := Lib.hid (by rw [← hW0]; exact heap_alloc_new w _)
  have HF0 : Hid (PrF B p x m lim bs w W0) := Lib.hid (by rw [← hW0]; exact (PrF.refl hP).below ((Below.refl _ _).alloc (Nat.le_refl _) _))
  obtain ⟨W1, hW1⟩ : ∃ W1, W0.alloc (.cells #[.int .i64 10, .int .i64 n, .string (strB s), .string (strB t), .slice An ns.length cn, .slice Al l.length cl, .slice Aa bs2.length ca] 30) = W1 := ⟨_, rfl⟩
  have HF1 : Hid (PrF B p x m lim bs w W1) := Lib.hid (by rw [← hW1]; exact HF0.out.below ((Below.refl _ _).alloc (Nat.le_refl _) _))
  have HE1 : Hid (EB W1 W0.heap.size (.int .i64 10) (.int .i64 n) (.string (strB s)) (.string (strB t)) (.slice An ns.length cn) (.slice Al l.length cl) (.slice Aa bs2.length ca)) := Lib.hid (by rw [← hW1]; exact EB.new W0 _ _ _ _ _ _ _)
  have HQ1 : Hid (W1.heap[w.heap.size]? = some (.cells #[.pointer (some ⟨p, 0, none⟩)] 84 (0, 0))) := Lib.hid (by rw [← hW1, Lib.alloc_old _ _ _ (by omega)]; exact HQ0.out)
  have hqp : w.heap.size ≠ p := by have := hP.ltp; omega
  have hgp : W0.heap.size ≠ p := by have := hP.ltp; omega
  have hqg : w.heap.size ≠ W0.heap.size := by omega
  have q1 := cell_blk HQ1.out
  have e0 := HE1.out.c0
  have e1 := HE1.out.c1
  have e2 := HE1.out.c2
  have e3 := HE1.out.c3
  have e4 := HE1.out.c4
  have e5 := HE1.out.c5
  have e6 := HE1.out.c6
  obtain ⟨psx, hpsx⟩ : ∃ q, q = pcs (.mk 10 n s t ns l ops bs2) := ⟨_, rfl⟩
  rw [← hpsx] at hlen ⊢
  by_cases hl0 : l.length = 0
  · have HQ : Hid (psx = [s]) := Lib.hid (by rw [hpsx, pcs_mk]; show [s] ++ (if (l.map Ex.lp).length = 0 then _ else _) = _; rw [if_pos (by simpa using hl0)]; rfl)
    have HL1 : Hid (bs.length + tot [s] ≤ 140737488355328) := Lib.hid (by rw [← HQ.out]; exact hlen)
    obtain ⟨ml, hml⟩ : ∃ q, q = l.length := ⟨_, rfl⟩
    rw [← hml] at hW1 HE1 e5 hl0 ⊢
    clear hf hn hl ha ho hS hlen hP hpsx hml hz
    subst hl0
    go_enter Tryz.func68, Tryz.ntmps68
    go_wp2_with fail
    clear hW1 hW0
    refine (write_new [s] W1 HF1.out (by simp) HL1.out).mono ?_
    rintro e w2 ⟨rfl, hp2, hf2⟩
    have HP2 := Lib.hid hp2
    have HE2 := Lib.hid (HE1.out.fr' hf2 hgp)
    have g5 := HE2.out.c5
    clear hp2 hf2 e0 e1 e2 e3 e4 e5 e6 q1
    go_wp2_with fail
    go_end0
    exact ⟨rfl, by rw [HQ.out]; exact HP2.out⟩
  · have hpcs : psx = [s] ++ ([[91]] ++ (lsP [44, 32] l ++ [[93]])) := by
      rw [hpsx, pcs_mk]
      show [s] ++ (if (l.map Ex.lp).length = 0 then _ else [[91]] ++ (listP [44, 32] ((l.map Ex.lp).map (atP 0)) ++ [[93]])) = _
      rw [if_neg (by simpa using hl0), List.map_map]
      rfl
    have HT : Hid (tot psx = tot [s] + (tot [[91]] + (tot (lsP [44, 32] l) + tot [[93]]))) := Lib.hid (by rw [hpcs, tot_append, tot_append, tot_append])
    have HL1 := Lib.hid (wrs_fit hlen HT.out)
    have HL2 := Lib.hid (wrs_le lim [s] bs hlen HT.out)
    have HL3 := Lib.hid (wrs_fit HL2.out rfl)
    have HL4 := Lib.hid (wrs_le lim [[91]] _ HL2.out rfl)
    have HL5 := Lib.hid (wrs_fit HL4.out rfl)
    have HL6 := Lib.hid (wrs_le lim (lsP [44, 32] l) _ HL4.out rfl)
    have HQ : Hid (wrs lim bs psx = wrs lim (wrs lim (wrs lim (wrs lim bs [s]) [[91]]) (lsP [44, 32] l)) [[93]]) := Lib.hid (by rw [hpcs, wrs_append, wrs_append, wrs_append])
    have HPa := Lib.hid (parts_of hl)
    have HLi := Lib.hid (fun (bs' : Txt) (w' : World) (h1 : PrF B p x m lim bs' w w') h2 h3 => listE_any B p x m lim bs' Al cl w.heap.size l [44, 32] w' h1.1 hS (HPa.out.fr h1.2) h2 (Nat.le_trans hf.hcl.1 hf.hcl.2) h3)
    obtain ⟨ml, hml⟩ : ∃ q, q = l.length := ⟨_, rfl⟩
    rw [← hml] at hW1 HE1 e5 hl0 HLi ⊢
    have hlb : ((ml : Int) == 0) = false := by simpa using hl0
    clear hf hn hl ha ho hS hlen hP hpsx hml hz hpcs hl0
    go_enter Tryz.func68, Tryz.ntmps68
    go_wp2_with fail
    clear hW1 hW0
    refine (write_new [s] W1 HF1.out (by simp) HL1.out).mono ?_
    rintro e w2 ⟨rfl, hp2, hf2⟩
    have HP2 := Lib.hid hp2
    have HE2 := Lib.hid (HE1.out.fr' hf2 hgp)
    have HQ2 := Lib.hid (hf2.blk HQ1.out (by decide) hqp)
    have g5 := HE2.out.c5
    have q2 := cell_blk HQ2.out
    clear hp2 hf2 e0 e1 e2 e3 e4 e5 e6 q1
    go_wp2_with fail
    refine (write_new [[91]] w2 HP2.out (by simp) HL3.out).mono ?_
    rintro e w3 ⟨rfl, hp3, hf3⟩
    have HP3 := Lib.hid hp3
    have HE3 := Lib.hid (HE2.out.fr' hf3 hgp)
    have HQ3 := Lib.hid (hf3.blk HQ2.out (by decide) hqp)
    clear hp3 hf3 g5 q2
    have g5 := HE3.out.c5
    have q3 := cell_blk HQ3.out
    go_wp2_with fail
    refine (HLi.out _ w3 HP3.out HQ3.out HL5.out).mono ?_
    rintro e w4 ⟨rfl, hp4⟩
    have HP4 := Lib.hid (HP3.out.then hp4)
    have HQ4 := Lib.hid (hp4.2.blk HQ3.out (by decide) hqp)
    clear hp4 g5 q3
    have q4 := cell_blk HQ4.out
    go_wp2_with fail
    refine (write_new [[93]] w4 HP4.out (by simp) HL6.out).mono ?_
    rintro e w5 ⟨rfl, hp5, hf5⟩
    have HP5 := Lib.hid hp5
    clear hp5 hf5 q4
    go_wp2_with fail
    go_end0
    exact ⟨rfl, by rw [HQ.out]; exact HP5.out⟩
end Go.Proofs.YtbmicnajedeenaaGreatDoor
/- The printer: arms. -/
namespace Go.Proofs.YtbmicnajedeenaaGreatDoor
open Go.RowKit

/-- the cells of an arm: its name, its names, its body -/
structure ArmCells (B : Nat) (w : World) (b o : Nat) (h : Txt × List Txt) (e : Ex) (An : Option Addr) (cn : Nat) (k n : Int) (s t : ByteArray) (A0 : Option Addr) (n0 c0 : Nat) (A1 : Option Addr) (n1 c1 : Nat) (A2 : Option Addr) (n2 c2 : Nat) : Prop where
  names : NamesAt (fun b => b < B) w An h.2
  len : h.2.length ≤ cn ∧ cn ≤ maxLen
  rep : RepE (fun b => b < B) w e [.int .i64 k, .int .i64 n, .string s, .string t, .slice A0 n0 c0, .slice A1 n1 c1, .slice A2 n2 c2]
  d0 : w.cell? ⟨b, o, none⟩ = some (.string (strB h.1))
  d1 : w.cell? ⟨b, o + 1, none⟩ = some (.slice An h.2.length cn)
  d2 : w.cell? ⟨b, o + 2, none⟩ = some (.int .i64 k)
  d3 : w.cell? ⟨b, o + 3, none⟩ = some (.int .i64 n)
  d4 : w.cell? ⟨b, o + 4, none⟩ = some (.string s)
  d5 : w.cell? ⟨b, o + 5, none⟩ = some (.string t)
  d6 : w.cell? ⟨b, o + 6, none⟩ = some (.slice A0 n0 c0)
  d7 : w.cell? ⟨b, o + 7, none⟩ = some (.slice A1 n1 c1)
  d8 : w.cell? ⟨b, o + 8, none⟩ = some (.slice A2 n2 c2)
/-- arms that lie in memory, below a block -/
def ArmsAt (B : Nat) (w : World) (A : Option Addr) (hs : List (Txt × List Txt)) (bs : List Ex) : Prop :=
  bs ≠ [] → ∃ b off, A = some ⟨b, off, none⟩ ∧ b < B ∧ b < w.heap.size ∧ ∀ j h e, hs[j]? = some h → bs[j]? = some e → ∃ An cn k n s t A0 n0 c0 A1 n1 c1 A2 n2 c2, ArmCells B w b (off + j * 9) h e An cn k n s t A0 n0 c0 A1 n1 c1 A2 n2 c2
theorem ArmCells.fr {B p : Nat} {w w' : World} {b o : Nat} {h : Txt × List Txt} {e : Ex} {An : Option Addr} {cn : Nat} {k n : Int} {s t : ByteArray} {A0 : Option Addr} {n0 c0 : Nat} {A1 : Option Addr} {n1 c1 : Nat} {A2 : Option Addr} {n2 c2 : Nat} (H : ArmCells B w b o h e An cn k n s t A0 n0 c0 A1 n1 c1 A2 n2 c2) (hb : b < B) (hlt : b < w.heap.size) (hf : FrP B p w w') :
    ArmCells B w' b o h e An cn k n s t A0 n0 c0 A1 n1 c1 A2 n2 c2 := by
  have kk : ∀ o, w'.cell? ⟨b, o, none⟩ = w.cell? ⟨b, o, none⟩ := fun o => hf.same.cell (P := fun b => b < B) hb hlt o
  exact ⟨H.names.keep hf.same, H.len, H.rep.keep hf.same, (kk _).trans H.d0, (kk _).trans H.d1, (kk _).trans H.d2, (kk _).trans H.d3, (kk _).trans H.d4, (kk _).trans H.d5, (kk _).trans H.d6, (kk _).trans H.d7, (kk _).trans H.d8⟩
theorem ArmsAt.fr {B p : Nat} {w w' : World} {A : Option Addr} {hs : List (Txt × List Txt)} {bs : List Ex} (h : ArmsAt B w A hs bs) (hf : FrP B p w w') : ArmsAt B w' A hs bs := fun h0 => by
  obtain ⟨b, off, e, hb, hlt, hc⟩ := h h0
  refine ⟨b, off, e, hb, Nat.lt_of_lt_of_le hlt hf.2.2, fun j hd e h1 h2 => ?_⟩
  obtain ⟨An, cn, k, n, s, t, A0, n0, c0, A1, n1, c1, A2, n2, c2, H⟩ := hc j hd e h1 h2
  exact ⟨An, cn, k, n, s, t, A0, n0, c0, A1, n1, c1, A2, n2, c2, H.fr hb hlt hf⟩
theorem arms_of {B : Nat} {w : World} {ops : List (Txt × List Txt)} {bs : List Ex} {Aa : Option Addr} (h : bs ≠ [] → ∃ b off, Aa = some ⟨b, off, none⟩ ∧ b < B ∧ b < w.heap.size ∧ RepA (fun b => b < B) w b off ops bs) : ArmsAt B w Aa ops bs := fun h0 => by
  obtain ⟨b, off, rfl, hb, hlt, hr⟩ := h h0
  refine ⟨b, off, rfl, hb, hlt, fun j hd e h1 h2 => ?_⟩
  obtain ⟨o, ho, A, c, cs, g1, g2, g3, g4, g7, hc, hn, he⟩ := RepA.at hr h2
  obtain rfl : o = hd := Option.some.inj (ho.symm.trans h1)
  obtain ⟨xk, xn, xs, xt, A0, p0, r0, A1, p1, r1, A2, p2, r2, rfl⟩ := he.shape
  exact ⟨A, c, xk, xn, xs, xt, A0, p0, r0, A1, p1, r1, A2, p2, r2, hn, ⟨g3, g4⟩, he, hc 0 _ rfl, hc 1 _ rfl, hc 2 _ rfl, hc 3 _ rfl, hc 4 _ rfl, hc 5 _ rfl, hc 6 _ rfl, hc 7 _ rfl, hc 8 _ rfl⟩

/-- an arm's nine cells fill block g -/
def AB (w : World) (g : Nat) (v0 v1 v2 v3 v4 v5 v6 v7 v8 : Value) : Prop := w.heap[g]? = some (.cells #[v0, v1, v2, v3, v4, v5, v6, v7, v8] 83 (0, 0))
theorem AB.c {w : World} {g : Nat} {v0 v1 v2 v3 v4 v5 v6 v7 v8 : Value} (h : AB w g v0 v1 v2 v3 v4 v5 v6 v7 v8) : w.cell? ⟨g, 0, none⟩ = some v0 ∧ w.cell? ⟨g, 1, none⟩ = some v1 ∧ w.cell? ⟨g, 2, none⟩ = some v2 ∧ w.cell? ⟨g, 3, none⟩ = some v3 ∧ w.cell? ⟨g, 4, none⟩ = some v4 ∧ w.cell? ⟨g, 5, none⟩ = some v5 ∧ w.cell? ⟨g, 6, none⟩ = some v6 ∧ w.cell? ⟨g, 7, none⟩ = some v7 ∧ w.cell? ⟨g, 8, none⟩ = some v8 :=
  ⟨cell_of_row w g 0 _ _ (0, 0) h, cell_of_row w g 1 _ _ (0, 0) h, cell_of_row w g 2 _ _ (0, 0) h, cell_of_row w g 3 _ _ (0, 0) h, cell_of_row w g 4 _ _ (0, 0) h, cell_of_row w g 5 _ _ (0, 0) h, cell_of_row w g 6 _ _ (0, 0) h, cell_of_row w g 7 _ _ (0, 0) h, cell_of_row w g 8 _ _ (0, 0) h⟩
theorem AB.fr {B p : Nat} {w w' : World} {g : Nat} {v0 v1 v2 v3 v4 v5 v6 v7 v8 : Value} (h : AB w g v0 v1 v2 v3 v4 v5 v6 v7 v8) (hf : FrP B p w w') (hne : g ≠ p) : AB w' g v0 v1 v2 v3 v4 v5 v6 v7 v8 := hf.blk h (by decide) hne

set_option maxRecDepth 100000 in
set_option maxHeartbeats 4000000 in
theorem arm_any (B p x m : Nat) (lim : Int) (bs : Txt) (h : Txt × List Txt) (e : Ex) (An : Option Addr) (cn : Nat) (k n : Int) (s t : ByteArray) (A0 : Option Addr) (n0 c0 : Nat) (A1 : Option Addr) (n1 c1 : Nat) (A2 : Option Addr) (n2 c2 : Nat) (w : World) (hP : Pr B p x m lim bs w) (hS : ExprSays e)
    (hN : NamesAt (fun b => b < B) w An h.2) (hn : h.2.length ≤ maxLen) (hre : RepE (fun b => b < B) w e [.int .i64 k, .int .i64 n, .string s, .string t, .slice A0 n0 c0, .slice A1 n1 c1, .slice A2 n2 c2]) (hlen : bs.length + tot (armP h e.lp) ≤ 140737488355328) :
    Calls Tryz.prog 108 #[.pointer (some ⟨p, 0, none⟩), .agg #[.string (strB h.1), .slice An h.2.length cn, .int .i64 k, .int .i64 n, .string s, .string t, .slice A0 n0 c0, .slice A1 n1 c1, .slice A2 n2 c2]] w fun e' w' => e' = .returned (.tuple #[]) ∧ PrF B p x m lim (wrs lim bs (armP h e.lp)) w w' := by
  obtain ⟨W1, hW1⟩ : ∃ W1, w.alloc (.cells #[.string (strB h.1), .slice An h.2.length cn, .int .i64 k, .int .i64 n, .string s, .string t, .slice A0 n0 c0, .slice A1 n1 c1, .slice A2 n2 c2] 83) = W1 := ⟨_, rfl⟩
  have HF1 : Hid (PrF B p x m lim bs w W1) := Lib.hid (by rw [← hW1]; exact (PrF.refl hP).below ((Below.refl _ _).alloc (Nat.le_refl _) _))
  have HE1 : Hid (AB W1 w.heap.size (.string (strB h.1)) (.slice An h.2.length cn) (.int .i64 k) (.int .i64 n) (.string s) (.string t) (.slice A0 n0 c0) (.slice A1 n1 c1) (.slice A2 n2 c2)) := Lib.hid (by rw [← hW1]; exact heap_alloc_new w _)
  have hgp : w.heap.size ≠ p := by have := hP.ltp; omega
  have HT : Hid (tot (armP h e.lp) = tot [h.1] + (tot (spacedP h.2) + (tot [[32, 45, 62, 32]] + tot (atP 0 e.lp)))) := Lib.hid (by unfold armP; rw [tot_append, tot_append, tot_append])
  have HL1 := Lib.hid (wrs_fit hlen HT.out)
  have HL2 := Lib.hid (wrs_le lim [h.1] bs hlen HT.out)
  have HL3 := Lib.hid (wrs_fit HL2.out rfl)
  have HL4 := Lib.hid (wrs_le lim (spacedP h.2) _ HL2.out rfl)
  have HL5 := Lib.hid (wrs_fit HL4.out rfl)
  have HL6 := Lib.hid (wrs_le lim [[32, 45, 62, 32]] _ HL4.out rfl)
  have HQ : Hid (wrs lim bs (armP h e.lp) = wrs lim (wrs lim (wrs lim (wrs lim bs [h.1]) (spacedP h.2)) [[32, 45, 62, 32]]) (atP 0 e.lp)) := Lib.hid (by unfold armP; rw [wrs_append, wrs_append, wrs_append])
  have HNs := Lib.hid (fun (bs' : Txt) (w' : World) (h1 : PrF B p x m lim bs' w w') h2 => spaced_any B p x m lim bs' An cn h.2 w' h1.1 (hN.keep h1.2.same) hn h2)
  have HX := Lib.hid (fun (bs' : Txt) (w' : World) (h1 : PrF B p x m lim bs' w w') h2 => hS B p x m lim bs' 0 _ w' h1.1 (hre.keep h1.2.same) h2)
  obtain ⟨psx, hpsx⟩ : ∃ q, q = armP h e.lp := ⟨_, rfl⟩
  rw [← hpsx] at HQ ⊢
  obtain ⟨m0, hm0⟩ : ∃ q, q = h.2.length := ⟨_, rfl⟩
  rw [← hm0] at hW1 HE1 HNs ⊢
  obtain ⟨h1, h2, h3, h4, h5, h6, h7, h8, h9⟩ := HE1.out.c
  clear hP hS hN hn hre hlen hpsx hm0
  go_enter Tryz.func108, Tryz.ntmps108
  go_wp2_with fail
  clear hW1
  refine (write_new [h.1] W1 HF1.out (by simp) HL1.out).mono ?_
  rintro e' w2 ⟨rfl, hp2, hf2⟩
  have HP2 := Lib.hid hp2
  have HE2 := Lib.hid (HE1.out.fr hf2 hgp)
  clear hp2 hf2 h1 h2 h3 h4 h5 h6 h7 h8 h9
  obtain ⟨h1, h2, h3, h4, h5, h6, h7, h8, h9⟩ := HE2.out.c
  go_wp2_with fail
  refine (HNs.out _ w2 HP2.out HL3.out).mono ?_
  rintro e' w3 ⟨rfl, hp3⟩
  have HP3 := Lib.hid (HP2.out.then hp3)
  have HE3 := Lib.hid (HE2.out.fr hp3.2 hgp)
  clear hp3 h1 h2 h3 h4 h5 h6 h7 h8 h9
  go_wp2_with fail
  refine (write_new [[32, 45, 62, 32]] w3 HP3.out (by simp) HL5.out).mono ?_
  rintro e' w4 ⟨rfl, hp4, hf4⟩
  have HP4 := Lib.hid hp4
  have HE4 := Lib.hid (HE3.out.fr hf4 hgp)
  clear hp4 hf4
  obtain ⟨h1, h2, h3, h4, h5, h6, h7, h8, h9⟩ := HE4.out.c
  go_wp2_with fail
  refine (HX.out _ w4 HP4.out HL6.out).mono ?_
  rintro e' w5 ⟨rfl, hp5⟩
  have HP5 := Lib.hid (HP4.out.then hp5)
  clear hp5 h1 h2 h3 h4 h5 h6 h7 h8 h9
  go_wp2_with fail
  go_end0
  exact ⟨rfl, by rw [HQ.out]; exact HP5.out⟩
end Go.Proofs.YtbmicnajedeenaaGreatDoor
/- The printer: lists of arms, in braces. -/
namespace Go.Proofs.YtbmicnajedeenaaGreatDoor
open Go.RowKit

/-- the pieces of a list of arms -/
def laP (sep : Txt) (hs : List (Txt × List Txt)) (l : List Ex) : List Txt := listP sep (List.zipWith (fun h e => armP h e.lp) hs l)
theorem laP_succ (sep : Txt) (hs : List (Txt × List Txt)) (l : List Ex) (k : Nat) (h : Txt × List Txt) (e : Ex) (h1 : hs[k]? = some h) (h2 : l[k]? = some e) : laP sep (hs.take (k + 1)) (l.take (k + 1)) = laP sep (hs.take k) (l.take k) ++ (if k = 0 then armP h e.lp else [sep] ++ armP h e.lp) := by
  have e1 : hs.take (k + 1) = hs.take k ++ [h] := by rw [List.take_add_one, h1]; rfl
  have e2 : l.take (k + 1) = l.take k ++ [e] := by rw [List.take_add_one, h2]; rfl
  have k1 := (List.getElem?_eq_some_iff.1 h1).1
  have k2 := (List.getElem?_eq_some_iff.1 h2).1
  unfold laP
  rw [e1, e2, List.zipWith_append (by rw [List.length_take, List.length_take]; omega)]
  show listP sep (_ ++ [armP h e.lp]) = _
  rw [listP_snoc]
  congr 1
  by_cases h0 : k = 0
  · subst h0; rfl
  · rw [if_neg h0, if_neg (fun h => h0 (by have := congrArg List.length h; rw [List.length_zipWith, List.length_take, List.length_take, List.length_nil] at this; omega))]
theorem laP_prefix (sep : Txt) (hs : List (Txt × List Txt)) (l : List Ex) (k : Nat) : laP sep (hs.take k) (l.take k) <+: laP sep hs l := by
  unfold laP
  rw [← List.take_zipWith]
  exact listP_prefix _ _ _

set_option maxRecDepth 100000 in
set_option maxHeartbeats 4000000 in
theorem listA_any (B p x m : Nat) (lim : Int) (bs : Txt) (A : Option Addr) (c : Nat) (hs : List (Txt × List Txt)) (l : List Ex) (sep : Txt) (w : World) (h : Pr B p x m lim bs w) (hS : ∀ e ∈ l, ExprSays e) (hP : ArmsAt B w A hs l) (hhl : hs.length = l.length) (hl : l.length ≤ maxLen) (hlen : bs.length + tot (laP sep hs l) ≤ 140737488355328) :
    Calls Tryz.prog 139 #[.pointer (some ⟨p, 0, none⟩), .slice A l.length c, .string (strB sep), .func (.func 108) #[.pointer (some ⟨p, 0, none⟩)] #[]] w fun e w' => e = .returned (.tuple #[]) ∧ PrF B p x m lim (wrs lim bs (laP sep hs l)) w w' := by
  have HP := Lib.hid h
  have HPa := Lib.hid hP
  have HLn := Lib.hid hlen
  have HS := Lib.hid hS
  have HH := Lib.hid hhl
  obtain ⟨n, hnn⟩ : ∃ n, n = l.length := ⟨_, rfl⟩
  have HL := Lib.hid hnn
  unfold maxLen at hl
  rw [← hnn] at hl ⊢
  clear h hP hlen hS hnn hhl
  go_enter Tryz.func139, Tryz.ntmps139
  go_wp2_with fail
  go_loopw [12] (fun i wr => ∃ k : Nat, k ≤ n ∧ i = .int .i64 (k : Int) ∧ Hid (PrF B p x m lim (wrs lim bs (laP sep (hs.take k) (l.take k))) w wr)) (fun i _ => n - (intOf i).toNat)
  case atStart => exact ⟨0, Nat.zero_le _, rfl, Lib.hid ⟨HP.out, FrP.refl _ _ _⟩⟩
  case round =>
    obtain ⟨k, hk, rfl, hPF⟩ := hrel
    have i0 : (0 : Int) ≤ (k : Int) := by omega
    by_cases hkl : k < n
    · have hke : k < l.length := by rw [← HL.out]; exact hkl
      have hkh : k < hs.length := by rw [HH.out]; exact hke
      have i1 : (k : Int) < (n : Int) := by omega
      obtain ⟨e, he⟩ : ∃ e, e = l[k] := ⟨_, rfl⟩
      obtain ⟨hd, hhd⟩ : ∃ e, e = hs[k] := ⟨_, rfl⟩
      have HEl : Hid (l[k]? = some e) := Lib.hid (by rw [he]; exact List.getElem?_eq_getElem hke)
      have HHl : Hid (hs[k]? = some hd) := Lib.hid (by rw [hhd]; exact List.getElem?_eq_getElem hkh)
      have HE := Lib.hid (HS.out e (by rw [he]; exact List.getElem_mem hke))
      have HTk := Lib.hid (laP_succ sep hs l k hd e HHl.out HEl.out)
      have HB : Hid ((wrs lim bs (laP sep (hs.take k) (l.take k))).length + tot (if k = 0 then armP hd e.lp else [sep] ++ armP hd e.lp) ≤ 140737488355328) := Lib.hid (by
        have h1 := wrs_len lim (laP sep (hs.take k) (l.take k)) bs
        have h2 := tot_prefix (laP_prefix sep hs l (k + 1))
        rw [HTk.out, tot_append] at h2
        have := HLn.out
        omega)
      obtain ⟨b, off, rfl, hb2, hb1, hcc⟩ := (HPa.out.fr hPF.out.2) (List.ne_nil_of_length_pos (by omega))
      obtain ⟨An, cn, k0, n0, s0, t0, B0, q0, r0, B1, q1, r1, B2, q2, r2, hc⟩ := hcc k hd e HHl.out HEl.out
      obtain ⟨bs1, hbs1⟩ : ∃ b, b = wrs lim bs (laP sep (hs.take k) (l.take k)) := ⟨_, rfl⟩
      have HT2 : Hid (wrs lim bs (laP sep (hs.take (k + 1)) (l.take (k + 1))) = wrs lim bs1 (if k = 0 then armP hd e.lp else [sep] ++ armP hd e.lp)) := Lib.hid (by rw [HTk.out, wrs_append, hbs1])
      rw [← hbs1] at hPF HB
      obtain ⟨m0, hm0⟩ : ∃ q, q = hd.2.length := ⟨_, rfl⟩
      obtain ⟨W1, hW1⟩ : ∃ W1, wr.alloc (.cells #[.string (strB hd.1), .slice An m0 cn, .int .i64 k0, .int .i64 n0, .string s0, .string t0, .slice B0 q0 r0, .slice B1 q1 r1, .slice B2 q2 r2] 83) = W1 := ⟨_, rfl⟩
      have HF1 : Hid (PrF B p x m lim bs1 w W1) := Lib.hid (by rw [← hW1]; exact hPF.out.below ((Below.refl _ _).alloc (Nat.le_refl _) _))
      have HE1 : Hid (AB W1 wr.heap.size (.string (strB hd.1)) (.slice An m0 cn) (.int .i64 k0) (.int .i64 n0) (.string s0) (.string t0) (.slice B0 q0 r0) (.slice B1 q1 r1) (.slice B2 q2 r2)) := Lib.hid (by rw [← hW1]; exact heap_alloc_new wr _)
      have hsm : Same (fun b => b < B) wr W1 := by rw [← hW1]; exact Same.of_grown (World.grownBy_alloc wr _ none) (fun _ _ => by simp)
      have HAr : Hid (∀ (bs' : Txt) (w' : World), Pr B p x m lim bs' w' → Same (fun b => b < B) W1 w' → bs'.length + tot (armP hd e.lp) ≤ 140737488355328 → Calls Tryz.prog 108 #[.pointer (some ⟨p, 0, none⟩), .agg #[.string (strB hd.1), .slice An m0 cn, .int .i64 k0, .int .i64 n0, .string s0, .string t0, .slice B0 q0 r0, .slice B1 q1 r1, .slice B2 q2 r2]] w' fun e' w2 => e' = .returned (.tuple #[]) ∧ PrF B p x m lim (wrs lim bs' (armP hd e.lp)) w' w2) := Lib.hid (fun bs' w' h1 h2 h3 => by
        rw [hm0]
        exact arm_any B p x m lim bs' hd e An cn k0 n0 s0 t0 B0 q0 r0 B1 q1 r1 B2 q2 r2 w' h1 HE.out (hc.names.keep (hsm.trans h2)) (Nat.le_trans hc.len.1 hc.len.2) (hc.rep.keep (hsm.trans h2)) h3)
      have hgp : wr.heap.size ≠ p := by have := hPF.out.1.ltp; omega
      have d0 := hc.d0
      have d1 := hc.d1
      have d2 := hc.d2
      have d3 := hc.d3
      have d4 := hc.d4
      have d5 := hc.d5
      have d6 := hc.d6
      have d7 := hc.d7
      have d8 := hc.d8
      rw [← hm0] at d1
      obtain ⟨g0, g1, g2, g3, g4, g5, g6, g7, g8⟩ := HE1.out.c
      clear hc hcc hbs1 he hhd hsm hm0
      by_cases hk0 : k = 0
      · have HB2 : Hid (bs1.length + tot (armP hd e.lp) ≤ 140737488355328) := Lib.hid (by have := HB.out; rwa [if_pos hk0] at this)
        have HT3 : Hid (wrs lim bs (laP sep (hs.take (k + 1)) (l.take (k + 1))) = wrs lim bs1 (armP hd e.lp)) := Lib.hid (by rw [HT2.out, if_pos hk0])
        have HC := Lib.hid (HAr.out bs1 W1 HF1.out.1 (Same.refl _ _) HB2.out)
        subst hk0
        simp only [Nat.zero_mul, Nat.add_zero] at d0 d1 d2 d3 d4 d5 d6 d7 d8
        have j0 : (0 : Int) < (n : Int) := by omega
        have j1 : 0 < n := by omega
        go_wp2_with fail
        clear hW1
        refine HC.out.mono ?_
        rintro e' w3 ⟨rfl, hp3⟩
        have HP3 : Hid (PrF B p x m lim (wrs lim bs (laP sep (hs.take (0 + 1)) (l.take (0 + 1)))) w w3) := Lib.hid (by rw [HT3.out]; exact HF1.out.then hp3)
        clear hp3 d0 d1 d2 d3 d4 d5 d6 d7 d8 g0 g1 g2 g3 g4 g5 g6 g7 g8 HC
        go_wp2_with fail
        go_roundw
        case rel => exact ⟨0 + 1, by omega, by go_num, HP3⟩
        case measure => simp [intOf]; omega
      · have hdd : decide (0 < (k : Int)) = true := by simp; omega
        have hd2 : 0 < k := by omega
        have HB2 : Hid (bs1.length + tot [sep] ≤ 140737488355328) := Lib.hid (by have := HB.out; rw [if_neg hk0, tot_append] at this; omega)
        have HB3 : Hid ((wrs lim bs1 [sep]).length + tot (armP hd e.lp) ≤ 140737488355328) := Lib.hid (by have := HB.out; rw [if_neg hk0, tot_append] at this; have h4 := wrs_len lim [sep] bs1; omega)
        have HT3 : Hid (wrs lim bs (laP sep (hs.take (k + 1)) (l.take (k + 1))) = wrs lim (wrs lim bs1 [sep]) (armP hd e.lp)) := Lib.hid (by rw [HT2.out, if_neg hk0, wrs_append])
        clear hk0
        go_wp2_with fail
        clear hW1
        refine (write_new [sep] W1 HF1.out (by simp) HB2.out).mono ?_
        rintro e' w2 ⟨rfl, hp2, hf2⟩
        have HP2 := Lib.hid hp2
        have HE2 := Lib.hid (HE1.out.fr hf2 hgp)
        have HC := Lib.hid (HAr.out _ w2 hp2.1 hf2.same HB3.out)
        clear hp2 hf2 d0 d1 d2 d3 d4 d5 d6 d7 d8 g0 g1 g2 g3 g4 g5 g6 g7 g8
        obtain ⟨g0, g1, g2, g3, g4, g5, g6, g7, g8⟩ := HE2.out.c
        go_wp2_with fail
        refine HC.out.mono ?_
        rintro e' w3 ⟨rfl, hp3⟩
        have HP3 : Hid (PrF B p x m lim (wrs lim bs (laP sep (hs.take (k + 1)) (l.take (k + 1)))) w w3) := Lib.hid (by rw [HT3.out]; exact HP2.out.then hp3)
        clear hp3 g0 g1 g2 g3 g4 g5 g6 g7 g8 HC
        go_wp2_with fail
        go_roundw
        case rel => exact ⟨k + 1, by omega, by go_num, HP3⟩
        case measure => simp [intOf]; omega
    · obtain rfl : k = n := by omega
      have HE : Hid (PrF B p x m lim (wrs lim bs (laP sep hs l)) w wr) := Lib.hid (by have := hPF.out; rw [HL.out, List.take_length, ← HH.out, List.take_length] at this; exact this)
      go_wp2_with fail
      go_end0
      exact ⟨rfl, HE.out⟩
end Go.Proofs.YtbmicnajedeenaaGreatDoor
/- The printer: arms in braces; a node whose part stands between some text and its arms. -/
namespace Go.Proofs.YtbmicnajedeenaaGreatDoor
open Go.RowKit

theorem bracesP_eq (hs : List (Txt × List Txt)) (l : List Ex) : bracesP hs (l.map Ex.lp) = [[123, 32]] ++ (laP [59, 32] hs l ++ ((if l.length = 0 then [] else [[32]]) ++ [[125]])) := by
  unfold bracesP laP
  rw [List.zipWith_map_right, List.length_map]

set_option maxRecDepth 100000 in
set_option maxHeartbeats 4000000 in
theorem braces_any (B p x m : Nat) (lim : Int) (bs : Txt) (A : Option Addr) (c : Nat) (hs : List (Txt × List Txt)) (l : List Ex) (w : World) (h : Pr B p x m lim bs w) (hS : ∀ e ∈ l, ExprSays e) (hP : ArmsAt B w A hs l) (hhl : hs.length = l.length) (hl : l.length ≤ maxLen) (hlen : bs.length + tot (bracesP hs (l.map Ex.lp)) ≤ 140737488355328) :
    Calls Tryz.prog 107 #[.pointer (some ⟨p, 0, none⟩), .slice A l.length c, .func (.func 108) #[.pointer (some ⟨p, 0, none⟩)] #[]] w fun e w' => e = .returned (.tuple #[]) ∧ PrF B p x m lim (wrs lim bs (bracesP hs (l.map Ex.lp))) w w' := by
  have HF1 := Lib.hid (PrF.refl h)
  have HLi := Lib.hid (fun (bs' : Txt) (w' : World) (h1 : PrF B p x m lim bs' w w') h3 => listA_any B p x m lim bs' A c hs l [59, 32] w' h1.1 hS (hP.fr h1.2) hhl hl h3)
  have HT : Hid (tot (bracesP hs (l.map Ex.lp)) = tot [[123, 32]] + (tot (laP [59, 32] hs l) + (tot (if l.length = 0 then [] else [[32]]) + tot [[125]]))) := Lib.hid (by rw [bracesP_eq, tot_append, tot_append, tot_append])
  have HL1 := Lib.hid (wrs_fit hlen HT.out)
  have HL2 := Lib.hid (wrs_le lim [[123, 32]] bs hlen HT.out)
  have HL3 := Lib.hid (wrs_fit HL2.out rfl)
  have HL4 := Lib.hid (wrs_le lim (laP [59, 32] hs l) _ HL2.out rfl)
  have HQ : Hid (wrs lim bs (bracesP hs (l.map Ex.lp)) = wrs lim (wrs lim (wrs lim (wrs lim bs [[123, 32]]) (laP [59, 32] hs l)) (if l.length = 0 then [] else [[32]])) [[125]]) := Lib.hid (by rw [bracesP_eq, wrs_append, wrs_append, wrs_append])
  obtain ⟨psx, hpsx⟩ : ∃ q, q = bracesP hs (l.map Ex.lp) := ⟨_, rfl⟩
  rw [← hpsx] at HQ ⊢
  obtain ⟨ml, hml⟩ : ∃ q, q = l.length := ⟨_, rfl⟩
  rw [← hml] at HLi HL4 HQ ⊢
  clear h hS hP hhl hl hlen hpsx hml HT HL2
  by_cases h0 : ml = 0
  · subst h0
    rw [if_pos rfl] at HL4 HQ
    go_enter Tryz.func107, Tryz.ntmps107
    go_wp2_with fail
    refine (write_new [[123, 32]] w HF1.out (by simp) HL1.out).mono ?_
    rintro e w2 ⟨rfl, hp2, hf2⟩
    have HP2 := Lib.hid hp2
    clear hp2 hf2
    go_wp2_with fail
    refine (HLi.out _ w2 HP2.out HL3.out).mono ?_
    rintro e w3 ⟨rfl, hp3⟩
    have HP3 := Lib.hid (HP2.out.then hp3)
    clear hp3
    go_wp2_with fail
    refine (write_new [[125]] w3 HP3.out (by simp) HL4.out).mono ?_
    rintro e w4 ⟨rfl, hp4, hf4⟩
    have HP4 := Lib.hid hp4
    clear hp4 hf4
    go_wp2_with fail
    go_end0
    exact ⟨rfl, by rw [HQ.out]; exact HP4.out⟩
  · have hd : decide (0 < (ml : Int)) = true := by simp; omega
    have hd2 : 0 < ml := by omega
    rw [if_neg h0] at HL4 HQ
    have HL5 := Lib.hid (wrs_fit HL4.out rfl)
    have HL6 := Lib.hid (wrs_le lim [[32]] _ HL4.out rfl)
    clear h0
    go_enter Tryz.func107, Tryz.ntmps107
    go_wp2_with fail
    refine (write_new [[123, 32]] w HF1.out (by simp) HL1.out).mono ?_
    rintro e w2 ⟨rfl, hp2, hf2⟩
    have HP2 := Lib.hid hp2
    clear hp2 hf2
    go_wp2_with fail
    refine (HLi.out _ w2 HP2.out HL3.out).mono ?_
    rintro e w3 ⟨rfl, hp3⟩
    have HP3 := Lib.hid (HP2.out.then hp3)
    clear hp3
    go_wp2_with fail
    refine (write_new [[32]] w3 HP3.out (by simp) HL5.out).mono ?_
    rintro e w4 ⟨rfl, hp4, hf4⟩
    have HP4 := Lib.hid hp4
    clear hp4 hf4
    go_wp2_with fail
    refine (write_new [[125]] w4 HP4.out (by simp) HL6.out).mono ?_
    rintro e w5 ⟨rfl, hp5, hf5⟩
    have HP5 := Lib.hid hp5
    clear hp5 hf5
    go_wp2_with fail
    go_end0
    exact ⟨rfl, by rw [HQ.out]; exact HP5.out⟩

set_option maxRecDepth 100000 in
set_option maxHeartbeats 4000000 in
theorem braced_any (B p x m : Nat) (lim : Int) (bs : Txt) (v0 v1 v2 v3 v4 : Value) (Al : Option Addr) (cl : Nat) (Aa : Option Addr) (ca : Nat) (g : Nat) (ps : List Txt) (l : List Ex) (ops : List (Txt × List Txt)) (bs2 : List Ex) (w : World) (h : Pr B p x m lim bs w) (hS : ∀ e ∈ l, ExprSays e) (hb : ∀ e ∈ bs2, ExprSays e)
    (hP : PartsAt B w Al l) (hln : 1 ≤ l.length) (hA : ArmsAt B w Aa ops bs2) (hhl : ops.length = bs2.length) (hl : bs2.length ≤ maxLen) (hg : PcsAt w g ps) (hn : ps.length ≤ 1000) (hlen : bs.length + tot (bracedP ps (nth (l.map Ex.lp) 0) ops (bs2.map Ex.lp)) ≤ 140737488355328) :
    Calls Tryz.prog 70 #[.pointer (some ⟨p, 0, none⟩), .agg #[v0, v1, v2, v3, v4, .slice Al l.length cl, .slice Aa bs2.length ca], .slice (some ⟨g, 0, none⟩) ps.length ps.length] w fun e' w' => e' = .returned (.tuple #[]) ∧ PrF B p x m lim (wrs lim bs (bracedP ps (nth (l.map Ex.lp) 0) ops (bs2.map Ex.lp))) w w' := by
  obtain ⟨W1, hW1⟩ : ∃ W1, w.alloc (.cells #[v0, v1, v2, v3, v4, .slice Al l.length cl, .slice Aa bs2.length ca] 30) = W1 := ⟨_, rfl⟩
  have HF1 : Hid (PrF B p x m lim bs w W1) := Lib.hid (by rw [← hW1]; exact (PrF.refl h).below ((Below.refl _ _).alloc (Nat.le_refl _) _))
  have HE1 : Hid (EB W1 w.heap.size v0 v1 v2 v3 v4 (.slice Al l.length cl) (.slice Aa bs2.length ca)) := Lib.hid (by rw [← hW1]; exact EB.new w _ _ _ _ _ _ _)
  have hgp : w.heap.size ≠ p := by have := h.ltp; omega
  obtain ⟨x0, hx0⟩ : ∃ e, l[0]? = some e := ⟨_, List.getElem?_eq_getElem (by omega)⟩
  rw [nth_lp hx0] at hlen ⊢
  have HT : Hid (tot (bracedP ps x0.lp ops (bs2.map Ex.lp)) = tot ps + (tot [[32]] + (tot (atP 0 x0.lp) + (tot [[32]] + tot (bracesP ops (bs2.map Ex.lp)))))) := Lib.hid (by unfold bracedP; rw [tot_append, tot_append, tot_append, tot_append])
  have HL1 := Lib.hid (wrs_fit hlen HT.out)
  have HL2 := Lib.hid (wrs_le lim ps bs hlen HT.out)
  have HL3 := Lib.hid (wrs_fit HL2.out rfl)
  have HL4 := Lib.hid (wrs_le lim [[32]] _ HL2.out rfl)
  have HL5 := Lib.hid (wrs_fit HL4.out rfl)
  have HL6 := Lib.hid (wrs_le lim (atP 0 x0.lp) _ HL4.out rfl)
  have HL7 := Lib.hid (wrs_fit HL6.out rfl)
  have HL8 := Lib.hid (wrs_le lim [[32]] _ HL6.out rfl)
  have HQ : Hid (wrs lim bs (bracedP ps x0.lp ops (bs2.map Ex.lp)) = wrs lim (wrs lim (wrs lim (wrs lim (wrs lim bs ps) [[32]]) (atP 0 x0.lp)) [[32]]) (bracesP ops (bs2.map Ex.lp))) := Lib.hid (by unfold bracedP; rw [wrs_append, wrs_append, wrs_append, wrs_append])
  obtain ⟨psx, hpsx⟩ : ∃ q, q = bracedP ps x0.lp ops (bs2.map Ex.lp) := ⟨_, rfl⟩
  rw [← hpsx] at HQ ⊢
  have HW : Hid (Calls Tryz.prog 49 #[.pointer (some ⟨p, 0, none⟩), .slice (some ⟨g, 0, none⟩) ps.length ps.length] W1 fun e w' => e = .returned (.tuple #[]) ∧ PrF B p x m lim (wrs lim bs ps) W1 w') := Lib.hid (write_any B p x m lim bs g ps W1 HF1.out.1 (hg.fr HF1.out.2 (hg.ne h)) (by omega) HL1.out)
  have HS0 := Lib.hid (hS x0 (List.mem_of_getElem? hx0))
  have HPa := Lib.hid hP
  have HX0 := Lib.hid hx0
  have HBr := Lib.hid (fun (bs' : Txt) (w' : World) (h1 : PrF B p x m lim bs' w w') h3 => braces_any B p x m lim bs' Aa ca ops bs2 w' h1.1 hb (hA.fr h1.2) hhl hl h3)
  obtain ⟨b, off, rfl⟩ := hP.addr (by omega)
  have i0 : (0 : Int) < (l.length : Int) := by omega
  have i0n : 0 < l.length := by omega
  obtain ⟨m2, hm2⟩ : ∃ n, n = ps.length := ⟨_, rfl⟩
  obtain ⟨ml, hml⟩ : ∃ q, q = l.length := ⟨_, rfl⟩
  obtain ⟨ma, hma⟩ : ∃ q, q = bs2.length := ⟨_, rfl⟩
  rw [← hml] at i0 i0n
  rw [← hml, ← hma] at hW1 HE1 ⊢
  rw [← hma] at HBr
  rw [← hm2] at HW ⊢
  clear h hS hb hP hln hA hhl hl hg hn hlen hx0 hpsx hm2 hml hma HT HL1
  go_enter Tryz.func70, Tryz.ntmps70
  go_wp2_with fail
  clear hW1
  refine HW.out.mono ?_
  rintro e w2 ⟨rfl, hp2⟩
  have HP2 := Lib.hid (HF1.out.then hp2)
  have HE2 := Lib.hid (HE1.out.fr' hp2.2 hgp)
  clear hp2
  go_wp2_with fail
  refine (write_new [[32]] w2 HP2.out (by simp) HL3.out).mono ?_
  rintro e w3 ⟨rfl, hp3, hf3⟩
  have HP3 := Lib.hid hp3
  have HE3 := Lib.hid (HE2.out.fr' hf3 hgp)
  clear hp3 hf3
  obtain ⟨⟨hb1, hb2⟩, k0, n0, s0, t0, B0, q0, r0, B1, q1, r1, B2, q2, r2, hc⟩ := (HPa.out.fr HP3.out.2).at HX0.out
  have HX1 := Lib.hid (HS0.out B p x m lim _ 0 _ w3 HP3.out.1 hc.rep HL5.out)
  have g5 := HE3.out.c5
  have d0 := hc.d0
  have d1 := hc.d1
  have d2 := hc.d2
  have d3 := hc.d3
  have d4 := hc.d4
  have d5 := hc.d5
  have d6 := hc.d6
  simp only [Nat.zero_mul, Nat.add_zero] at d0 d1 d2 d3 d4 d5 d6
  clear hc
  go_wp2_with fail
  refine HX1.out.mono ?_
  rintro e w4 ⟨rfl, hp4⟩
  have HP4 := Lib.hid (HP3.out.then hp4)
  have HE4 := Lib.hid (HE3.out.fr' hp4.2 hgp)
  clear hp4 d0 d1 d2 d3 d4 d5 d6 hb1 hb2 g5
  go_wp2_with fail
  refine (write_new [[32]] w4 HP4.out (by simp) HL7.out).mono ?_
  rintro e w5 ⟨rfl, hp5, hf5⟩
  have HP5 := Lib.hid hp5
  have HE5 := Lib.hid (HE4.out.fr' hf5 hgp)
  have g6 := HE5.out.c6
  clear hp5 hf5
  go_wp2_with fail
  refine (HBr.out _ w5 HP5.out HL8.out).mono ?_
  rintro e w6 ⟨rfl, hp6⟩
  have HP6 := Lib.hid (HP5.out.then hp6)
  clear hp6 g6
  go_wp2_with fail
  go_end0
  exact ⟨rfl, by rw [HQ.out]; exact HP6.out⟩
end Go.Proofs.YtbmicnajedeenaaGreatDoor
/- The printer's functions for Match, Handle, Named. -/
namespace Go.Proofs.YtbmicnajedeenaaGreatDoor
open Go.RowKit

set_option maxRecDepth 100000 in
set_option maxHeartbeats 4000000 in
theorem rule_match (n : Int) (s t : Txt) (ns : List Txt) (l : List Ex) (ops : List (Txt × List Txt)) (bs2 : List Ex) (hS : ∀ e ∈ l, ExprSays e) (hln : 1 ≤ l.length) (hb : ∀ e ∈ bs2, ExprSays e) : RuleSays (.mk 11 n s t ns l ops bs2) := by
  intro B p x m lim bs cs w hP hre hlen
  have HRE := Lib.hid hre
  obtain ⟨An, cn, Al, cl, Aa, ca, rfl, hf, hn, hl, ha, ho⟩ := hre
  show Calls Tryz.prog 69 #[.agg #[.int .i64 11, .int .i64 n, .string (strB s), .string (strB t), .slice An ns.length cn, .slice Al l.length cl, .slice Aa bs2.length ca], .pointer (some ⟨x, 0, none⟩)] w _
  obtain ⟨W1, hW1⟩ : ∃ W1, w.alloc (.cells #[.int .i64 11, .int .i64 n, .string (strB s), .string (strB t), .slice An ns.length cn, .slice Al l.length cl, .slice Aa bs2.length ca] 30) = W1 := ⟨_, rfl⟩
  have HF1 : Hid (PrF B p x m lim bs w W1) := Lib.hid (by rw [← hW1]; exact (PrF.refl hP).below ((Below.refl _ _).alloc (Nat.le_refl _) _))
  have HE1 : Hid (EB W1 w.heap.size (.int .i64 11) (.int .i64 n) (.string (strB s)) (.string (strB t)) (.slice An ns.length cn) (.slice Al l.length cl) (.slice Aa bs2.length ca)) := Lib.hid (by rw [← hW1]; exact EB.new w _ _ _ _ _ _ _)
  have e0 := HE1.out.c0
  have e1 := HE1.out.c1
  have e2 := HE1.out.c2
  have e3 := HE1.out.c3
  have e4 := HE1.out.c4
  have e5 := HE1.out.c5
  have e6 := HE1.out.c6
  have hx1 := HF1.out.1.cx
  have hgp : w.heap.size ≠ p := by have := hP.ltp; omega
  have hpcs : pcs (.mk 11 n s t ns l ops bs2) = bracedP [[109, 97, 116, 99, 104]] (nth (l.map Ex.lp) 0) ops (bs2.map Ex.lp) := by rw [pcs_mk]; rfl
  rw [hpcs] at hlen
  obtain ⟨psx, hpsx⟩ : ∃ q, q = pcs (.mk 11 n s t ns l ops bs2) := ⟨_, rfl⟩
  have HQ : Hid (psx = bracedP [[109, 97, 116, 99, 104]] (nth (l.map Ex.lp) 0) ops (bs2.map Ex.lp)) := Lib.hid (by rw [hpsx, hpcs])
  rw [← hpsx]
  have HA : Hid (PrF B p x m lim bs w (W1.alloc (.cells ([[109, 97, 116, 99, 104]].map fun s => Value.string (strB s)).toArray 9))) := Lib.hid (HF1.out.below ((Below.refl _ _).alloc (Nat.le_refl _) _))
  have HO := Lib.hid (braced_any B p x m lim bs (.int .i64 11) (.int .i64 n) (.string (strB s)) (.string (strB t)) (.slice An ns.length cn) Al cl Aa ca W1.heap.size [[109, 97, 116, 99, 104]] l ops bs2 (W1.alloc (.cells ([[109, 97, 116, 99, 104]].map fun s => Value.string (strB s)).toArray 9)) HA.out.1 hS hb ((parts_of hl).fr HA.out.2) hln ((arms_of ha).fr HA.out.2) ho (Nat.le_trans hf.hca.1 hf.hca.2) (heap_alloc_new W1 _) (by simp) hlen)
  clear hf hn hl ha ho hpcs hpsx hS hb hln hlen hP
  go_enter Tryz.func69, Tryz.ntmps69
  go_wp2_with fail
  clear hW1
  refine HO.out.mono ?_
  rintro e w2 ⟨rfl, hp2⟩
  have HR := Lib.hid (HA.out.then hp2)
  clear hp2
  go_wp2_with fail
  go_end0
  exact ⟨rfl, by rw [HQ.out]; exact HR.out⟩
set_option maxRecDepth 100000 in
set_option maxHeartbeats 4000000 in
theorem rule_handle (n : Int) (s t : Txt) (ns : List Txt) (l : List Ex) (ops : List (Txt × List Txt)) (bs2 : List Ex) (hS : ∀ e ∈ l, ExprSays e) (hln : 1 ≤ l.length) (hb : ∀ e ∈ bs2, ExprSays e) : RuleSays (.mk 14 n s t ns l ops bs2) := by
  intro B p x m lim bs cs w hP hre hlen
  have HRE := Lib.hid hre
  obtain ⟨An, cn, Al, cl, Aa, ca, rfl, hf, hn, hl, ha, ho⟩ := hre
  show Calls Tryz.prog 71 #[.pointer (some ⟨p, 0, none⟩), .agg #[.int .i64 14, .int .i64 n, .string (strB s), .string (strB t), .slice An ns.length cn, .slice Al l.length cl, .slice Aa bs2.length ca]] w _
  obtain ⟨W1, hW1⟩ : ∃ W1, w.alloc (.cells #[.int .i64 14, .int .i64 n, .string (strB s), .string (strB t), .slice An ns.length cn, .slice Al l.length cl, .slice Aa bs2.length ca] 30) = W1 := ⟨_, rfl⟩
  have HF1 : Hid (PrF B p x m lim bs w W1) := Lib.hid (by rw [← hW1]; exact (PrF.refl hP).below ((Below.refl _ _).alloc (Nat.le_refl _) _))
  have HE1 : Hid (EB W1 w.heap.size (.int .i64 14) (.int .i64 n) (.string (strB s)) (.string (strB t)) (.slice An ns.length cn) (.slice Al l.length cl) (.slice Aa bs2.length ca)) := Lib.hid (by rw [← hW1]; exact EB.new w _ _ _ _ _ _ _)
  have e0 := HE1.out.c0
  have e1 := HE1.out.c1
  have e2 := HE1.out.c2
  have e3 := HE1.out.c3
  have e4 := HE1.out.c4
  have e5 := HE1.out.c5
  have e6 := HE1.out.c6
  have hx1 := HF1.out.1.cx
  have hgp : w.heap.size ≠ p := by have := hP.ltp; omega
  by_cases h1 : n = 1
  · subst h1
    have hpcs : pcs (.mk 14 1 s t ns l ops bs2) = bracedP [[115, 104, 97, 108, 108, 111, 119, 32], s] (nth (l.map Ex.lp) 0) ops (bs2.map Ex.lp) := by rw [pcs_mk]; rfl
    rw [hpcs] at hlen
    obtain ⟨psx, hpsx⟩ : ∃ q, q = pcs (.mk 14 1 s t ns l ops bs2) := ⟨_, rfl⟩
    have HQ : Hid (psx = bracedP [[115, 104, 97, 108, 108, 111, 119, 32], s] (nth (l.map Ex.lp) 0) ops (bs2.map Ex.lp)) := Lib.hid (by rw [hpsx, hpcs])
    rw [← hpsx]
    have HA : Hid (PrF B p x m lim bs w (W1.alloc (.cells ([[115, 104, 97, 108, 108, 111, 119, 32], s].map fun s => Value.string (strB s)).toArray 9))) := Lib.hid (HF1.out.below ((Below.refl _ _).alloc (Nat.le_refl _) _))
    have HO := Lib.hid (braced_any B p x m lim bs (.int .i64 14) (.int .i64 1) (.string (strB s)) (.string (strB t)) (.slice An ns.length cn) Al cl Aa ca W1.heap.size [[115, 104, 97, 108, 108, 111, 119, 32], s] l ops bs2 (W1.alloc (.cells ([[115, 104, 97, 108, 108, 111, 119, 32], s].map fun s => Value.string (strB s)).toArray 9)) HA.out.1 hS hb ((parts_of hl).fr HA.out.2) hln ((arms_of ha).fr HA.out.2) ho (Nat.le_trans hf.hca.1 hf.hca.2) (heap_alloc_new W1 _) (by simp) hlen)
    clear hf hn hl ha ho hpcs hpsx hS hb hln hlen hP
    go_enter Tryz.func71, Tryz.ntmps71
    go_wp2_with fail
    clear hW1
    refine HO.out.mono ?_
    rintro e w2 ⟨rfl, hp2⟩
    have HR := Lib.hid (HA.out.then hp2)
    clear hp2
    go_wp2_with fail
    go_end0
    exact ⟨rfl, by rw [HQ.out]; exact HR.out⟩
  · have h1b : (n == 1) = false := by simpa using h1
    have hpcs : pcs (.mk 14 n s t ns l ops bs2) = bracedP [[104, 97, 110, 100, 108, 101, 32], s] (nth (l.map Ex.lp) 0) ops (bs2.map Ex.lp) := by rw [pcs_mk]; show bracedP [if n = 1 then _ else _, s] _ _ _ = _; rw [if_neg h1]
    rw [hpcs] at hlen
    obtain ⟨psx, hpsx⟩ : ∃ q, q = pcs (.mk 14 n s t ns l ops bs2) := ⟨_, rfl⟩
    have HQ : Hid (psx = bracedP [[104, 97, 110, 100, 108, 101, 32], s] (nth (l.map Ex.lp) 0) ops (bs2.map Ex.lp)) := Lib.hid (by rw [hpsx, hpcs])
    rw [← hpsx]
    have HA : Hid (PrF B p x m lim bs w (W1.alloc (.cells ([[104, 97, 110, 100, 108, 101, 32], s].map fun s => Value.string (strB s)).toArray 9))) := Lib.hid (HF1.out.below ((Below.refl _ _).alloc (Nat.le_refl _) _))
    have HO := Lib.hid (braced_any B p x m lim bs (.int .i64 14) (.int .i64 n) (.string (strB s)) (.string (strB t)) (.slice An ns.length cn) Al cl Aa ca W1.heap.size [[104, 97, 110, 100, 108, 101, 32], s] l ops bs2 (W1.alloc (.cells ([[104, 97, 110, 100, 108, 101, 32], s].map fun s => Value.string (strB s)).toArray 9)) HA.out.1 hS hb ((parts_of hl).fr HA.out.2) hln ((arms_of ha).fr HA.out.2) ho (Nat.le_trans hf.hca.1 hf.hca.2) (heap_alloc_new W1 _) (by simp) hlen)
    clear h1 hf hn hl ha ho hpcs hpsx hS hb hln hlen hP
    go_enter Tryz.func71, Tryz.ntmps71
    go_wp2_with fail
    clear hW1
    refine HO.out.mono ?_
    rintro e w2 ⟨rfl, hp2⟩
    have HR := Lib.hid (HA.out.then hp2)
    clear hp2
    go_wp2_with fail
    go_end0
    exact ⟨rfl, by rw [HQ.out]; exact HR.out⟩
end Go.Proofs.YtbmicnajedeenaaGreatDoor
/- The printer's functions for Named, Using. -/
namespace Go.Proofs.YtbmicnajedeenaaGreatDoor
open Go.RowKit

section
variable {B p x m : Nat} {lim : Int} {w W1 w' : World} {g : Nat} {v0 v1 v2 v3 v4 v5 v6 : Value}
theorem OpS.all1 {b o : Nat} {u0 : Value} (hb : b < B) (hlt : b < W1.heap.size) (d0 : W1.cell? ⟨b, o, none⟩ = some u0) (h : OpS B p x m lim w W1 g v0 v1 v2 v3 v4 v5 v6 w') :
    w'.cell? ⟨b, o, none⟩ = some u0 ∧
      w'.cell? ⟨x, 0, none⟩ = some (.pointer (some ⟨p, 0, none⟩)) ∧ w'.cell? ⟨g, 0, none⟩ = some v0 ∧ w'.cell? ⟨g, 1, none⟩ = some v1 ∧ w'.cell? ⟨g, 2, none⟩ = some v2 ∧ w'.cell? ⟨g, 3, none⟩ = some v3 ∧ w'.cell? ⟨g, 4, none⟩ = some v4 ∧ w'.cell? ⟨g, 5, none⟩ = some v5 ∧ w'.cell? ⟨g, 6, none⟩ = some v6 ∧ OpS B p x m lim w W1 g v0 v1 v2 v3 v4 v5 v6 w' :=
  ⟨h.part hb hlt d0, h.cells⟩
end
/-- the first name of some -/
theorem name0 {B : Nat} {w : World} {A : Option Addr} {x : Txt} {r : List Txt} (h : NamesAt (fun b => b < B) w A (x :: r)) : ∃ b off, A = some ⟨b, off, none⟩ ∧ b < B ∧ b < w.heap.size ∧ w.cell? ⟨b, off, none⟩ = some (.string (strB x)) := by
  obtain ⟨b, off, e, hb, hlt, hc⟩ := h (by simp)
  exact ⟨b, off, e, hb, hlt, hc 0 x rfl⟩
set_option maxRecDepth 100000 in
set_option maxHeartbeats 4000000 in
theorem rule_named (n : Int) (s t : Txt) (nm : Txt) (nr : List Txt) (l : List Ex) (ops : List (Txt × List Txt)) (bs2 : List Ex) (hS : ∀ e ∈ l, ExprSays e) (hln : 1 ≤ l.length) (hb : ∀ e ∈ bs2, ExprSays e) : RuleSays (.mk 15 n s t (nm :: nr) l ops bs2) := by
  intro B p x m lim bs cs w hP hre hlen
  have HRE := Lib.hid hre
  obtain ⟨An, cn, Al, cl, Aa, ca, rfl, hf, hn, hl, ha, ho⟩ := hre
  show Calls Tryz.prog 72 #[.agg #[.int .i64 15, .int .i64 n, .string (strB s), .string (strB t), .slice An (nm :: nr).length cn, .slice Al l.length cl, .slice Aa bs2.length ca], .pointer (some ⟨x, 0, none⟩)] w _
  obtain ⟨W1, hW1⟩ : ∃ W1, w.alloc (.cells #[.int .i64 15, .int .i64 n, .string (strB s), .string (strB t), .slice An (nm :: nr).length cn, .slice Al l.length cl, .slice Aa bs2.length ca] 30) = W1 := ⟨_, rfl⟩
  have HF1 : Hid (PrF B p x m lim bs w W1) := Lib.hid (by rw [← hW1]; exact (PrF.refl hP).below ((Below.refl _ _).alloc (Nat.le_refl _) _))
  have HE1 : Hid (EB W1 w.heap.size (.int .i64 15) (.int .i64 n) (.string (strB s)) (.string (strB t)) (.slice An (nm :: nr).length cn) (.slice Al l.length cl) (.slice Aa bs2.length ca)) := Lib.hid (by rw [← hW1]; exact EB.new w _ _ _ _ _ _ _)
  have e0 := HE1.out.c0
  have e1 := HE1.out.c1
  have e2 := HE1.out.c2
  have e3 := HE1.out.c3
  have e4 := HE1.out.c4
  have e5 := HE1.out.c5
  have e6 := HE1.out.c6
  have hx1 := HF1.out.1.cx
  have hgp : w.heap.size ≠ p := by have := hP.ltp; omega
  have hpcs : pcs (.mk 15 n s t (nm :: nr) l ops bs2) = bracedP [[110, 97, 109, 101, 100, 32], nm, [32], s] (nth (l.map Ex.lp) 0) ops (bs2.map Ex.lp) := by rw [pcs_mk]; rfl
  rw [hpcs] at hlen
  obtain ⟨psx, hpsx⟩ : ∃ q, q = pcs (.mk 15 n s t (nm :: nr) l ops bs2) := ⟨_, rfl⟩
  have HQ : Hid (psx = bracedP [[110, 97, 109, 101, 100, 32], nm, [32], s] (nth (l.map Ex.lp) 0) ops (bs2.map Ex.lp)) := Lib.hid (by rw [hpsx, hpcs])
  rw [← hpsx]
  obtain ⟨bn, on, rfl, hb2, hlt0, hc0⟩ := name0 hn
  have hb1 : bn < W1.heap.size := Nat.lt_of_lt_of_le hlt0 HF1.out.2.2.2
  have d0 : W1.cell? ⟨bn, on, none⟩ = some (.string (strB nm)) := (HF1.out.2.same.cell (P := fun b => b < B) hb2 hlt0 on).trans hc0
  have HA : Hid (PrF B p x m lim bs w (W1.drew.alloc (.cells ([[110, 97, 109, 101, 100, 32], nm, [32], s].map fun s => Value.string (strB s)).toArray 9))) := Lib.hid (HF1.out.drew.below ((Below.refl _ _).alloc (Nat.le_refl _) _))
  have HX := Lib.hid (braced_any B p x m lim bs (.int .i64 15) (.int .i64 n) (.string (strB s)) (.string (strB t)) (.slice (some ⟨bn, on, none⟩) (nm :: nr).length cn) Al cl Aa ca W1.drew.heap.size [[110, 97, 109, 101, 100, 32], nm, [32], s] l ops bs2 (W1.drew.alloc (.cells ([[110, 97, 109, 101, 100, 32], nm, [32], s].map fun s => Value.string (strB s)).toArray 9)) HA.out.1 hS hb ((parts_of hl).fr HA.out.2) hln ((arms_of ha).fr HA.out.2) ho (Nat.le_trans hf.hca.1 hf.hca.2) (heap_alloc_new W1.drew _) (by simp) hlen)
  have i0 : (0 : Int) < ((nm :: nr).length : Int) := by simp
  have i0n : 0 < (nm :: nr).length := by simp
  obtain ⟨mn, hmn⟩ : ∃ q, q = (nm :: nr).length := ⟨_, rfl⟩
  rw [← hmn] at HE1 hW1 e4 i0 i0n HX ⊢
  clear hf hn hl ha ho hpcs hpsx hS hln hlen hP hb hmn hc0 hlt0
  go_enter Tryz.func72, Tryz.ntmps72
  go_wp2_with fail
  clear hW1
  have hX : OpS B p x m lim w W1 w.heap.size (.int .i64 15) (.int .i64 n) (.string (strB s)) (.string (strB t)) (.slice (some ⟨bn, on, none⟩) mn cn) (.slice Al l.length cl) (.slice Aa bs2.length ca) W1 := OpS.mk HF1.out HE1.out
  go_region_held3 (fun w' => w'.cell? ⟨bn, on, none⟩ = some (.string (strB nm)) ∧ w'.cell? ⟨x, 0, none⟩ = some (.pointer (some ⟨p, 0, none⟩)) ∧ w'.cell? ⟨w.heap.size, 0, none⟩ = some (.int .i64 15) ∧ w'.cell? ⟨w.heap.size, 1, none⟩ = some (.int .i64 n) ∧ w'.cell? ⟨w.heap.size, 2, none⟩ = some (.string (strB s)) ∧ w'.cell? ⟨w.heap.size, 3, none⟩ = some (.string (strB t)) ∧ w'.cell? ⟨w.heap.size, 4, none⟩ = some (.slice (some ⟨bn, on, none⟩) mn cn) ∧ w'.cell? ⟨w.heap.size, 5, none⟩ = some (.slice Al l.length cl) ∧ w'.cell? ⟨w.heap.size, 6, none⟩ = some (.slice Aa bs2.length ca) ∧ OpS B p x m lim w W1 w.heap.size (.int .i64 15) (.int .i64 n) (.string (strB s)) (.string (strB t)) (.slice (some ⟨bn, on, none⟩) mn cn) (.slice Al l.length cl) (.slice Aa bs2.length ca) w')
    ((refine OpS.all1 hb2 hb1 d0 ?_; first | assumption | exact hX.drew | exact hX.drew.alloc _ | exact OpS.call (hX.drew.alloc _) hgp (by assumption)))
    (first | (go_at_call 70; refine HX.out.mono ?_; rintro e w' ⟨rfl, hpf⟩))
  rename_i hh
  have HR := Lib.hid (HA.out.then hpf)
  clear hh hpf hX d0 HX hb1 hb2 e0 e1 e2 e3 e4 e5 e6
  go_wp2_with fail
  go_end0
  exact ⟨rfl, by rw [HQ.out]; exact HR.out⟩

theorem OpS.step {B p x m : Nat} {lim : Int} {bs : Txt} {w W1 w' w'' : World} {g : Nat} {v0 v1 v2 v3 v4 v5 v6 : Value} (h : OpS B p x m lim w W1 g v0 v1 v2 v3 v4 v5 v6 w') (hne : g ≠ p) (hp : PrF B p x m lim bs w w'') (hf : FrP B p w' w'') : OpS B p x m lim w W1 g v0 v1 v2 v3 v4 v5 v6 w'' := by
  obtain ⟨_, h1, h2, h3⟩ := h
  exact ⟨_, hp, h2.fr' hf hne, h3.trans hf⟩
theorem join_any {B : Nat} (w : World) (A : Option Addr) (c : Nat) (r : List Txt) (sep : Txt) (hN : NamesAt (fun b => b < B) w A r) (hc : r.length ≤ c) (hn : r.length ≤ 1000000) (hlen : (Lib.join r sep).length ≤ 140737488355328) :
    Calls Tryz.prog 102 #[.slice A r.length c, .string (strB sep)] w fun e w' => e = .returned (.string (strB (Lib.join r sep))) ∧ Below w.heap.size w w' := by
  cases r with
  | nil => exact (Tryz.strings_Join_none A c (strB sep) w).mono fun e w2 h => ⟨by rw [h.1]; rfl, by rw [h.2]; exact Below.refl _ _⟩
  | cons y r =>
    obtain ⟨b, off, rfl, hb, hlt, hcc⟩ := hN (by simp)
    have hm : ((y :: r).map strB).map (·.data.toList) = y :: r := by rw [List.map_map]; exact (List.map_congr_left (fun a _ => data_strB a)).trans (List.map_id _)
    have := Tryz.strings_Join b off c ((y :: r).map strB) (strB sep) w (fun j z hj => by
      rw [List.getElem?_map, Option.map_eq_some_iff] at hj
      obtain ⟨a, ha, rfl⟩ := hj
      exact hcc j a ha) hlt (by rw [List.length_map]; omega) (by rw [List.length_map]; exact hc) (by rw [hm, data_strB]; exact hlen)
    rw [hm, List.length_map, data_strB] at this
    exact this
set_option maxRecDepth 100000 in
set_option maxHeartbeats 4000000 in
theorem rule_using (n : Int) (s t : Txt) (nm : Txt) (nr : List Txt) (l : List Ex) (ops : List (Txt × List Txt)) (bs2 : List Ex) (hS : ∀ e ∈ l, ExprSays e) (hln : 3 ≤ l.length) (hnr : nr.length ≤ 1000000) : RuleSays (.mk 17 n s t (nm :: nr) l ops bs2) := by
  intro B p x m lim bs cs w hP hre hlen
  have HRE := Lib.hid hre
  obtain ⟨An, cn, Al, cl, Aa, ca, rfl, hf, hn, hl, ha, ho⟩ := hre
  show Calls Tryz.prog 59 #[.pointer (some ⟨p, 0, none⟩), .agg #[.int .i64 17, .int .i64 n, .string (strB s), .string (strB t), .slice An (nm :: nr).length cn, .slice Al l.length cl, .slice Aa bs2.length ca]] w _
  obtain ⟨W1, hW1⟩ : ∃ W1, w.alloc (.cells #[.int .i64 17, .int .i64 n, .string (strB s), .string (strB t), .slice An (nm :: nr).length cn, .slice Al l.length cl, .slice Aa bs2.length ca] 30) = W1 := ⟨_, rfl⟩
  have HF1 : Hid (PrF B p x m lim bs w W1) := Lib.hid (by rw [← hW1]; exact (PrF.refl hP).below ((Below.refl _ _).alloc (Nat.le_refl _) _))
  have HE1 : Hid (EB W1 w.heap.size (.int .i64 17) (.int .i64 n) (.string (strB s)) (.string (strB t)) (.slice An (nm :: nr).length cn) (.slice Al l.length cl) (.slice Aa bs2.length ca)) := Lib.hid (by rw [← hW1]; exact EB.new w _ _ _ _ _ _ _)
  have e0 := HE1.out.c0
  have e1 := HE1.out.c1
  have e2 := HE1.out.c2
  have e3 := HE1.out.c3
  have e4 := HE1.out.c4
  have e5 := HE1.out.c5
  have e6 := HE1.out.c6
  have hx1 := HF1.out.1.cx
  have hgp : w.heap.size ≠ p := by have := hP.ltp; omega
  obtain ⟨J, hJ⟩ : ∃ J, J = Lib.join nr [44, 32] := ⟨_, rfl⟩
  have hpcs : pcs (.mk 17 n s t (nm :: nr) l ops bs2) = [[117, 115, 105, 110, 103, 32], nm, [32, 91], J, [93]] ++ behindP (l.map Ex.lp) [[32, 61, 32], [32, 99, 108, 111, 115, 101, 32], [32, 105, 110, 32]] := by rw [pcs_mk, hJ]; rfl
  rw [hpcs] at hlen
  obtain ⟨psx, hpsx⟩ : ∃ q, q = pcs (.mk 17 n s t (nm :: nr) l ops bs2) := ⟨_, rfl⟩
  have HT : Hid (tot ([[117, 115, 105, 110, 103, 32], nm, [32, 91], J, [93]] ++ behindP (l.map Ex.lp) [[32, 61, 32], [32, 99, 108, 111, 115, 101, 32], [32, 105, 110, 32]]) = tot [[117, 115, 105, 110, 103, 32], nm, [32, 91], J, [93]] + tot (behindP (l.map Ex.lp) [[32, 61, 32], [32, 99, 108, 111, 115, 101, 32], [32, 105, 110, 32]])) := Lib.hid (tot_append _ _)
  have HL1 := Lib.hid (wrs_fit hlen HT.out)
  have HL2 := Lib.hid (wrs_le lim [[117, 115, 105, 110, 103, 32], nm, [32, 91], J, [93]] bs hlen HT.out)
  have HQ : Hid (wrs lim bs psx = wrs lim (wrs lim bs [[117, 115, 105, 110, 103, 32], nm, [32, 91], J, [93]]) (behindP (l.map Ex.lp) [[32, 61, 32], [32, 99, 108, 111, 115, 101, 32], [32, 105, 110, 32]])) := Lib.hid (by rw [hpsx, hpcs, wrs_append])
  rw [← hpsx]
  obtain ⟨bn, on, rfl, hb2, hlt0, hc0⟩ := name0 hn
  have hb1 : bn < W1.heap.size := Nat.lt_of_lt_of_le hlt0 HF1.out.2.2.2
  have d0 : W1.cell? ⟨bn, on, none⟩ = some (.string (strB nm)) := (HF1.out.2.same.cell (P := fun b => b < B) hb2 hlt0 on).trans hc0
  have HJ : Hid (∀ A2 c2, nr.length ≤ c2 → (nr ≠ [] → A2 = some ⟨bn, on + 1, none⟩) → Calls Tryz.prog 102 #[.slice A2 nr.length c2, .string (strB [44, 32])] W1.drew fun e w' => e = .returned (.string (strB J)) ∧ Below W1.drew.heap.size W1.drew w') := Lib.hid (fun A2 c2 h1 h2 => by
    rw [hJ]
    refine join_any (B := B) W1.drew A2 c2 nr [44, 32] (fun h0 => ?_) h1 hnr ?_
    · rw [h2 h0]; exact ((NamesAt.tail hn).keep HF1.out.2.drew.same) h0
    · have := HL1.out
      rw [← hJ]
      simp only [tot_cons] at this
      omega)
  have HB := Lib.hid (fun (bs' : Txt) (w' : World) (h1 : PrF B p x m lim bs' w w') h2 => behind_any B p x m lim bs' Al cl w'.heap.size l [[32, 61, 32], [32, 99, 108, 111, 115, 101, 32], [32, 105, 110, 32]] (w'.alloc (.cells ([[32, 61, 32], [32, 99, 108, 111, 115, 101, 32], [32, 105, 110, 32]].map fun s => Value.string (strB s)).toArray 9)) (h1.1.alloc _) hS ((parts_of hl).fr (h1.below ((Below.refl _ _).alloc (Nat.le_refl _) _)).2) (heap_alloc_new w' _) ⟨hln, Nat.le_trans hf.hcl.1 hf.hcl.2⟩ (by simp) h2)
  have i0 : (0 : Int) < ((nm :: nr).length : Int) := by simp
  have i0n : 0 < (nm :: nr).length := by simp
  have hcn1 := hf.hcn.1
  have hcn2 := hf.hcn.2
  obtain ⟨mr, hmr⟩ : ∃ q, q = nr.length := ⟨_, rfl⟩
  have hmn' : (nm :: nr).length = mr + 1 := by rw [hmr]; rfl
  rw [hmn'] at HE1 hW1 e4 i0 i0n hcn1 ⊢
  rw [← hmr] at HJ
  have HNr : Hid (nr ≠ [] → mr ≠ 0) := Lib.hid (fun h e => h (List.length_eq_zero_iff.1 (by rw [← hmr]; exact e)))
  obtain ⟨ml, hml⟩ : ∃ q, q = l.length := ⟨_, rfl⟩
  rw [← hml] at HE1 hW1 e5 HB ⊢
  unfold maxLen at hcn2
  clear hf hn hl ha ho hpcs hpsx hS hln hlen hP hnr hmn' hc0 hlt0 hJ hmr hml HT
  by_cases hc1 : cn = 1
  · subst hc1
    obtain rfl : mr = 0 := by omega
    have HJ2 := Lib.hid (HJ.out (some ⟨bn, on, none⟩) 0 (Nat.le_refl _) (fun h => absurd rfl (HNr.out h)))
    clear HJ
    go_enter Tryz.func59, Tryz.ntmps59
    go_wp2_with fail
    clear hW1
    have hX : OpS B p x m lim w W1 w.heap.size (.int .i64 17) (.int .i64 n) (.string (strB s)) (.string (strB t)) (.slice (some ⟨bn, on, none⟩) (0 + 1) 1) (.slice Al ml cl) (.slice Aa bs2.length ca) W1 := OpS.mk HF1.out HE1.out
    go_region_held3 (fun w' => w'.cell? ⟨bn, on, none⟩ = some (.string (strB nm)) ∧ w'.cell? ⟨x, 0, none⟩ = some (.pointer (some ⟨p, 0, none⟩)) ∧ w'.cell? ⟨w.heap.size, 0, none⟩ = some (.int .i64 17) ∧ w'.cell? ⟨w.heap.size, 1, none⟩ = some (.int .i64 n) ∧ w'.cell? ⟨w.heap.size, 2, none⟩ = some (.string (strB s)) ∧ w'.cell? ⟨w.heap.size, 3, none⟩ = some (.string (strB t)) ∧ w'.cell? ⟨w.heap.size, 4, none⟩ = some (.slice (some ⟨bn, on, none⟩) (0 + 1) 1) ∧ w'.cell? ⟨w.heap.size, 5, none⟩ = some (.slice Al ml cl) ∧ w'.cell? ⟨w.heap.size, 6, none⟩ = some (.slice Aa bs2.length ca) ∧ OpS B p x m lim w W1 w.heap.size (.int .i64 17) (.int .i64 n) (.string (strB s)) (.string (strB t)) (.slice (some ⟨bn, on, none⟩) (0 + 1) 1) (.slice Al ml cl) (.slice Aa bs2.length ca) w')
      ((refine OpS.all1 hb2 hb1 d0 ?_; first | assumption | exact hX.drew | exact hX.drew.below hbj | exact (hX.drew.below hbj).alloc _ | exact OpS.step (hX.drew.below hbj) hgp hpw hfw))
      (first | (go_at_call 102; refine HJ2.out.mono ?_; rintro e wj ⟨rfl, hbj⟩) | (go_at_call 49; refine (write_new [[117, 115, 105, 110, 103, 32], nm, [32, 91], J, [93]] wj (HF1.out.drew.below hbj) (by simp) HL1.out).mono ?_; rintro e w2 ⟨rfl, hpw, hfw⟩))
    rename_i hh
    have HP2 := Lib.hid hpw
    have g5 := hh.2.2.2.2.2.2.2.1
    clear hh hpw hfw hX d0 hb1 hb2 e0 e1 e2 e3 e4 e5 e6 hx1 HJ2 hbj
    go_wp2_with fail
    refine (HB.out _ w2 HP2.out HL2.out).mono ?_
    rintro e w3 ⟨rfl, hp3⟩
    have HP3 := Lib.hid ((HP2.out.below ((Below.refl _ _).alloc (Nat.le_refl _) _)).then hp3)
    clear hp3 g5
    go_wp2_with fail
    go_end0
    exact ⟨rfl, by rw [HQ.out]; exact HP3.out⟩
  · have j1 : (1 : Int) ≤ (mr : Int) + 1 := by omega
    have j2 : (mr : Int) + 1 ≤ (cn : Int) := by omega
    have HJ2 := Lib.hid (HJ.out (some ⟨bn, on + 1, none⟩) (cn - 1) (by omega) (fun _ => rfl))
    clear HJ
    go_enter Tryz.func59, Tryz.ntmps59
    go_wp2_with fail
    clear hW1
    have hX : OpS B p x m lim w W1 w.heap.size (.int .i64 17) (.int .i64 n) (.string (strB s)) (.string (strB t)) (.slice (some ⟨bn, on, none⟩) (mr + 1) cn) (.slice Al ml cl) (.slice Aa bs2.length ca) W1 := OpS.mk HF1.out HE1.out
    go_region_held3 (fun w' => w'.cell? ⟨bn, on, none⟩ = some (.string (strB nm)) ∧ w'.cell? ⟨x, 0, none⟩ = some (.pointer (some ⟨p, 0, none⟩)) ∧ w'.cell? ⟨w.heap.size, 0, none⟩ = some (.int .i64 17) ∧ w'.cell? ⟨w.heap.size, 1, none⟩ = some (.int .i64 n) ∧ w'.cell? ⟨w.heap.size, 2, none⟩ = some (.string (strB s)) ∧ w'.cell? ⟨w.heap.size, 3, none⟩ = some (.string (strB t)) ∧ w'.cell? ⟨w.heap.size, 4, none⟩ = some (.slice (some ⟨bn, on, none⟩) (mr + 1) cn) ∧ w'.cell? ⟨w.heap.size, 5, none⟩ = some (.slice Al ml cl) ∧ w'.cell? ⟨w.heap.size, 6, none⟩ = some (.slice Aa bs2.length ca) ∧ OpS B p x m lim w W1 w.heap.size (.int .i64 17) (.int .i64 n) (.string (strB s)) (.string (strB t)) (.slice (some ⟨bn, on, none⟩) (mr + 1) cn) (.slice Al ml cl) (.slice Aa bs2.length ca) w')
      ((refine OpS.all1 hb2 hb1 d0 ?_; first | assumption | exact hX.drew | exact hX.drew.below hbj | exact (hX.drew.below hbj).alloc _ | exact OpS.step (hX.drew.below hbj) hgp hpw hfw))
      (first | (go_at_call 102; refine HJ2.out.mono ?_; rintro e wj ⟨rfl, hbj⟩) | (go_at_call 49; refine (write_new [[117, 115, 105, 110, 103, 32], nm, [32, 91], J, [93]] wj (HF1.out.drew.below hbj) (by simp) HL1.out).mono ?_; rintro e w2 ⟨rfl, hpw, hfw⟩))
    rename_i hh
    have HP2 := Lib.hid hpw
    have g5 := hh.2.2.2.2.2.2.2.1
    clear hh hpw hfw hX d0 hb1 hb2 e0 e1 e2 e3 e4 e5 e6 hx1 HJ2 hbj
    go_wp2_with fail
    refine (HB.out _ w2 HP2.out HL2.out).mono ?_
    rintro e w3 ⟨rfl, hp3⟩
    have HP3 := Lib.hid ((HP2.out.below ((Below.refl _ _).alloc (Nat.le_refl _) _)).then hp3)
    clear hp3 g5
    go_wp2_with fail
    go_end0
    exact ⟨rfl, by rw [HQ.out]; exact HP3.out⟩
end Go.Proofs.YtbmicnajedeenaaGreatDoor
/- The printer: every well-formed expression. -/
namespace Go.Proofs.YtbmicnajedeenaaGreatDoor
open Go.RowKit

/-- what a node without errors is like -/
structure Shape (k n : Int) (s t : Txt) (ns : List Txt) (nl nb : Nat) (ops : List (Txt × List Txt)) (kn : Nat) : Prop where
  hk : k = (kn : Int)
  lt : kn < 20
  num : numHas (useOf kn 0) n = true
  s1 : nameHas (useOf kn 1) s = true
  t1 : nameHas (useOf kn 2) t = true
  names : cntIn ns.length (useOf kn 3) (useOf kn 4) = true
  parts : cntIn nl (useOf kn 5) (useOf kn 6) = true
  room : roomB nb (useOf kn 7) = true
  nms : nmsErr k ns = 0
  arms : armsErr (useOf kn 7) [] ops = 0
theorem shape_of {k n : Int} {s t : Txt} {ns : List Txt} {l : List Ex} {ops : List (Txt × List Txt)} {bs : List Ex} (h : chkN (.mk k n s t ns l ops bs) = 0) : ∃ kn, Shape k n s t ns l.length bs.length ops kn := by
  unfold chkN at h
  by_cases hk : 0 ≤ (Ex.mk k n s t ns l ops bs).k ∧ (Ex.mk k n s t ns l ops bs).k < 20
  · rw [if_pos hk] at h
    simp only [Ex.k] at hk
    change (if numHas (useOf k.toNat 0) n = false then (1 : Int)
      else if nameHas (useOf k.toNat 1) s = false then 4
      else if nameHas (useOf k.toNat 2) t = false then 4
      else if cntIn ns.length (useOf k.toNat 3) (useOf k.toNat 4) = false then 7
      else if cntIn l.length (useOf k.toNat 5) (useOf k.toNat 6) = false then 7
      else if roomB bs.length (useOf k.toNat 7) = false then 7
      else if nmsErr k ns = 0 then armsErr (useOf k.toNat 7) [] ops else nmsErr k ns) = 0 at h
    refine ⟨k.toNat, by omega, by omega, ?_, ?_, ?_, ?_, ?_, ?_, ?_, ?_⟩
    all_goals
      by_cases h1 : numHas (useOf k.toNat 0) n = false
      · rw [if_pos h1] at h; omega
      rw [if_neg h1] at h
      by_cases h2 : nameHas (useOf k.toNat 1) s = false
      · rw [if_pos h2] at h; omega
      rw [if_neg h2] at h
      by_cases h3 : nameHas (useOf k.toNat 2) t = false
      · rw [if_pos h3] at h; omega
      rw [if_neg h3] at h
      by_cases h4 : cntIn ns.length (useOf k.toNat 3) (useOf k.toNat 4) = false
      · rw [if_pos h4] at h; omega
      rw [if_neg h4] at h
      by_cases h5 : cntIn l.length (useOf k.toNat 5) (useOf k.toNat 6) = false
      · rw [if_pos h5] at h; omega
      rw [if_neg h5] at h
      by_cases h6 : roomB bs.length (useOf k.toNat 7) = false
      · rw [if_pos h6] at h; omega
      rw [if_neg h6] at h
      have h7 : nmsErr k ns = 0 := by
        by_cases h7 : nmsErr k ns = 0
        · exact h7
        · rw [if_neg h7] at h; exact absurd h h7
      rw [if_pos h7] at h
      simp only [Bool.not_eq_false] at h1 h2 h3 h4 h5 h6
      assumption
  · rw [if_neg hk] at h; omega
theorem cnt_ge {n : Nat} {a b : Int} (h : cntIn n a b = true) : a ≤ n ∧ (n : Int) ≤ a + b := by
  unfold cntIn at h
  simpa using h

/-- every node of a tree is without errors -/
def wfE (e : Ex) : Prop := ∀ q ∈ nodesE 1 e, chkN q.2 = 0
mutual
theorem nodesE_snd (P : Ex → Prop) : ∀ (e : Ex) (d d' : Int), (∀ q ∈ nodesE d e, P q.2) → ∀ q ∈ nodesE d' e, P q.2
  | .mk k n s t ns l ops bs, d, d', h, q, hq => by
    simp only [nodesE, List.mem_cons, List.mem_append] at hq
    rcases hq with rfl | hq | hq
    · exact h (d, _) (by simp [nodesE])
    · exact nodesL_snd P l (d + 1) (d' + 1) (fun q hq => h q (by simp [nodesE, hq])) q hq
    · exact nodesL_snd P bs (d + 1) (d' + 1) (fun q hq => h q (by simp [nodesE, hq])) q hq
theorem nodesL_snd (P : Ex → Prop) : ∀ (l : List Ex) (d d' : Int), (∀ q ∈ nodesL d l, P q.2) → ∀ q ∈ nodesL d' l, P q.2
  | [], d, d', _, q, hq => by simp [nodesL] at hq
  | x :: r, d, d', h, q, hq => by
    simp only [nodesL, List.mem_append] at hq
    rcases hq with hq | hq
    · exact nodesE_snd P x d d' (fun q hq => h q (by simp [nodesL, hq])) q hq
    · exact nodesL_snd P r d d' (fun q hq => h q (by simp [nodesL, hq])) q hq
end
theorem mem_nodesL {l : List Ex} {x : Ex} (h : x ∈ l) : ∀ {d : Int} {q : Int × Ex}, q ∈ nodesE d x → q ∈ nodesL d l := by
  induction l with
  | nil => simp at h
  | cons y r ih =>
    intro d q hq
    simp only [nodesL, List.mem_append]
    rcases List.mem_cons.1 h with rfl | h
    · exact .inl hq
    · exact .inr (ih h hq)
theorem wfE.parts {k n : Int} {s t : Txt} {ns : List Txt} {l : List Ex} {ops : List (Txt × List Txt)} {bs : List Ex} (h : wfE (.mk k n s t ns l ops bs)) : chkN (.mk k n s t ns l ops bs) = 0 ∧ (∀ x ∈ l, wfE x) ∧ ∀ x ∈ bs, wfE x := by
  refine ⟨h (1, _) (by simp [nodesE]), fun x hx => nodesE_snd (fun e => chkN e = 0) x (1 + 1) 1 fun q hq => h q ?_, fun x hx => nodesE_snd (fun e => chkN e = 0) x (1 + 1) 1 fun q hq => h q ?_⟩
  · simp only [nodesE, List.mem_cons, List.mem_append]
    exact .inr (.inl (mem_nodesL hx hq))
  · simp only [nodesE, List.mem_cons, List.mem_append]
    exact .inr (.inr (mem_nodesL hx hq))
theorem firstF_zero {chk : Ex → Int} : ∀ {l : List (Int × Ex)}, firstF chk l = 0 → ∀ q ∈ l, chk q.2 = 0
  | [], _, q, hq => by simp at hq
  | (d, x) :: r, h, q, hq => by
    unfold firstF at h
    by_cases hx : chk x = 0
    · rw [if_pos hx] at h
      rcases List.mem_cons.1 hq with rfl | hq
      · exact hx
      · exact firstF_zero h q hq
    · rw [if_neg hx] at h; exact absurd h hx
theorem len_ge {n : Nat} {a : Int} {b : Nat} (h : a ≤ n) (e : a = b) : b ≤ n := by omega
theorem rule_all (e : Ex) (h : chkN e = 0) (hl : ∀ x ∈ e.l, ExprSays x) (hb : ∀ x ∈ e.bs, ExprSays x) : RuleSays e := by
  cases e with
  | mk k n s t ns l ops bs =>
  simp only [Ex.l, Ex.bs] at hl hb
  obtain ⟨kn, H⟩ := shape_of h
  obtain ⟨hk, lt, num, s1, t1, names, parts, room, _, _⟩ := H
  subst hk
  have hp := cnt_ge parts
  have hn := cnt_ge names
  clear h num t1 room
  obtain rfl | rfl | rfl | rfl | rfl | rfl | rfl | rfl | rfl | rfl | rfl | rfl | rfl | rfl | rfl | rfl | rfl | rfl | rfl | rfl : kn = 0 ∨ kn = 1 ∨ kn = 2 ∨ kn = 3 ∨ kn = 4 ∨ kn = 5 ∨ kn = 6 ∨ kn = 7 ∨ kn = 8 ∨ kn = 9 ∨ kn = 10 ∨ kn = 11 ∨ kn = 12 ∨ kn = 13 ∨ kn = 14 ∨ kn = 15 ∨ kn = 16 ∨ kn = 17 ∨ kn = 18 ∨ kn = 19 := by omega
  · exact rule_var n s t ns l ops bs
  · exact rule_int n s t ns l ops bs
  · exact rule_bool n s t ns l ops bs
  · exact rule_unit n s t ns l ops bs
  · exact rule_fun n s t ns l ops bs hl (len_ge hp.1 (b := 1) (by decide))
  · exact rule_app n s t ns l ops bs hl (len_ge hp.1 (b := 2) (by decide))
  · exact rule_let n s t ns l ops bs hl (len_ge hp.1 (b := 2) (by decide))
  · exact rule_rec n s t ns l ops bs hl (len_ge hp.1 (b := 2) (by decide))
  · exact rule_if n s t ns l ops bs hl (len_ge hp.1 (b := 3) (by decide))
  · exact rule_prim n s t ns l ops bs hl (len_ge hp.1 (b := 2) (by decide)) (by simpa [nameHas, show useOf 9 1 = 4 by decide] using s1)
  · exact rule_con n s t ns l ops bs hl
  · exact rule_match n s t ns l ops bs hl (len_ge hp.1 (b := 1) (by decide)) hb
  · exact rule_do n s t ns l ops bs hl (len_ge hp.1 (b := 1) (by decide))
  · exact rule_at n s t ns l ops bs hl (len_ge hp.1 (b := 1) (by decide))
  · exact rule_handle n s t ns l ops bs hl (len_ge hp.1 (b := 1) (by decide)) hb
  · have h1 : useOf 15 3 = 1 := by decide
    cases ns with
    | nil => simp at hn; omega
    | cons nm nr => exact rule_named n s t nm nr l ops bs hl (len_ge hp.1 (b := 1) (by decide)) hb
  · exact rule_mask n s t ns l ops bs hl (len_ge hp.1 (b := 1) (by decide))
  · have h1 : useOf 17 3 = 1 := by decide
    have h2 : useOf 17 4 = 12 := by decide
    cases ns with
    | nil => simp at hn; omega
    | cons nm nr => exact rule_using n s t nm nr l ops bs hl (len_ge hp.1 (b := 3) (by decide)) (by simp at hn; omega)
  · exact rule_resume n s t ns l ops bs hl (len_ge hp.1 (b := 1) (by decide))
  · exact rule_drop n s t ns l ops bs
/-- every well-formed expression is written -/
theorem expr_all : ∀ e, wfE e → ExprSays e := by
  refine Ex.ind fun e ih h => ?_
  cases e with
  | mk k n s t ns l ops bs =>
  obtain ⟨h0, h1, h2⟩ := h.parts
  have hl : ∀ x ∈ l, ExprSays x := fun x hx => ih x (by simp [Ex.parts, Ex.l, Ex.bs, hx]) (h1 x hx)
  have hb : ∀ x ∈ bs, ExprSays x := fun x hx => ih x (by simp [Ex.parts, Ex.l, Ex.bs, hx]) (h2 x hx)
  obtain ⟨kn, H⟩ := shape_of h0
  exact expr_says _ (by have := H.hk; have := H.lt; simp only [Ex.k]; omega) (rule_all _ h0 hl hb)
end Go.Proofs.YtbmicnajedeenaaGreatDoor
/- How long a well-formed expression's text is. -/
namespace Go.Proofs.YtbmicnajedeenaaGreatDoor
open Go.RowKit

def sumP (l : List LvP) : Nat := (l.map fun q => tot q.2 + 2).sum
theorem tot_at (a : Int) (q : LvP) : tot (atP a q) ≤ tot q.2 + 2 := by
  unfold atP; split
  · omega
  · rw [tot_append, tot_append]; show 1 + (tot q.2 + 1) ≤ _; omega
theorem tot_spaced (ns : List Txt) (h : ∀ x ∈ ns, x.length ≤ 12) : tot (spacedP ns) ≤ 13 * ns.length := by
  induction ns with
  | nil => exact Nat.le_refl _
  | cons x r ih =>
    have h1 := h x (by simp)
    have h2 := ih (fun y hy => h y (by simp [hy]))
    have h3 : tot (spacedP (x :: r)) = 1 + (x.length + tot (spacedP r)) := rfl
    rw [h3, List.length_cons]; omega
theorem tot_behind : ∀ (l : List LvP) (ts : List Txt), tot (behindP l ts) ≤ tot ts + sumP l
  | [], ts => by simp [behindP, tot]
  | a :: r, [] => by simp [behindP, tot]
  | a :: r, u :: us => by
    have h1 := tot_behind r us
    have h2 := tot_at 0 a
    have h3 : sumP (a :: r) = (tot a.2 + 2) + sumP r := rfl
    have h4 : tot [u] = u.length := rfl
    have h5 : tot (u :: us) = u.length + tot us := rfl
    unfold behindP
    rw [tot_append, tot_append, h3, h4, h5]; omega
theorem tot_flat (sep : Txt) (r : List (List Txt)) : tot (r.flatMap fun y => [sep] ++ y) = (r.map fun y => sep.length + tot y).sum := by
  induction r with
  | nil => rfl
  | cons x r ih => rw [List.flatMap_cons, tot_append, ih]; rfl
theorem tot_list (sep : Txt) (xs : List (List Txt)) : tot (listP sep xs) ≤ (xs.map fun y => sep.length + tot y).sum := by
  cases xs with
  | nil => exact Nat.le_refl _
  | cons x r => unfold listP; rw [tot_append, tot_flat, List.map_cons, List.sum_cons]; omega
theorem nth_tot (l : List LvP) (i : Nat) (a : Int) : tot (atP a (nth l i)) ≤ sumP l + 2 := by
  have h := tot_at a (nth l i)
  have h2 : tot (nth l i).2 ≤ sumP l := by
    induction l generalizing i with
    | nil => exact Nat.zero_le _
    | cons x r ih =>
      have h3 : sumP (x :: r) = (tot x.2 + 2) + sumP r := rfl
      cases i with
      | zero => have h4 : nth (x :: r) 0 = x := rfl; rw [h4, h3]; omega
      | succ i => have h4 : nth (x :: r) (i + 1) = nth r i := rfl; have h5 := ih i (tot_at a _); rw [h4, h3]; omega
  omega
theorem nth_tot2 (l : List LvP) (a b : Int) : tot (atP a (nth l 0)) + tot (atP b (nth l 1)) ≤ sumP l + 4 := by
  cases l with
  | nil => have h1 := tot_at a (nth [] 0); have h2 := tot_at b (nth [] 1); have h3 : tot (nth [] 0).2 = 0 := rfl; have h4 : tot (nth [] 1).2 = 0 := rfl; omega
  | cons x r =>
    have h1 := tot_at a (nth (x :: r) 0)
    have h3 : sumP (x :: r) = (tot x.2 + 2) + sumP r := rfl
    have h4 : nth (x :: r) 0 = x := rfl
    have h5 : nth (x :: r) 1 = nth r 0 := rfl
    have h6 := nth_tot r 0 b
    rw [h4] at h1
    rw [h5, h4, h3]; omega
theorem join_len (r : List Txt) (sep : Txt) (h : ∀ x ∈ r, x.length ≤ 12) (hs : sep.length = 2) : (Lib.join r sep).length ≤ 14 * r.length := by
  have key : ∀ r : List Txt, (∀ x ∈ r, x.length ≤ 12) → ((r.intersperse sep).flatten).length ≤ 14 * r.length := by
    intro r
    induction r with
    | nil => intro _; simp
    | cons x r ih =>
      intro h
      have h1 := h x (by simp)
      have h2 := ih (fun y hy => h y (by simp [hy]))
      cases r with
      | nil => simp; omega
      | cons y r =>
        rw [List.intersperse_cons_cons, List.flatten_cons, List.flatten_cons, List.length_append, List.length_append, hs]
        simp only [List.length_cons] at h2 ⊢
        omega
  exact key r h
/-- what the lengths of a node's own strings are -/
structure Small (n : Int) (s t : Txt) (ns : List Txt) (ops : List (Txt × List Txt)) (nl nb : Nat) : Prop where
  hnl : nl ≤ 4
  hs : s.length ≤ 12
  ht : t.length ≤ 12
  hns : ns.length ≤ 13 ∧ ∀ x ∈ ns, x.length ≤ 12
  hops : ∀ o ∈ ops, o.1.length ≤ 12 ∧ o.2.length ≤ 4 ∧ ∀ x ∈ o.2, x.length ≤ 12
  hnb : nb ≤ 9
  hn : (Lib.itoa n).length ≤ 21
theorem tot_arm (o : Txt × List Txt) (q : LvP) (h : o.1.length ≤ 12 ∧ o.2.length ≤ 4 ∧ ∀ x ∈ o.2, x.length ≤ 12) : tot (armP o q) ≤ 70 + (tot q.2 + 2) := by
  have h1 := tot_spaced o.2 h.2.2
  have h2 := tot_at 0 q
  unfold armP
  rw [tot_append, tot_append, tot_append]
  have h3 : tot [o.1] = o.1.length := rfl
  have h4 : tot [([32, 45, 62, 32] : Txt)] = 4 := rfl
  have := h.1
  have := h.2.1
  rw [h3, h4]; omega
theorem tot_braces : ∀ (ops : List (Txt × List Txt)) (bs : List LvP), (∀ o ∈ ops, o.1.length ≤ 12 ∧ o.2.length ≤ 4 ∧ ∀ x ∈ o.2, x.length ≤ 12) → ((List.zipWith armP ops bs).map fun y => 2 + tot y).sum ≤ 72 * bs.length + sumP bs
  | [], bs, _ => by simp
  | o :: r, [], _ => by simp
  | o :: r, q :: bs, h => by
    have h1 := tot_arm o q (h o (by simp))
    have h2 := tot_braces r bs (fun x hx => h x (by simp [hx]))
    have h3 : sumP (q :: bs) = (tot q.2 + 2) + sumP bs := rfl
    rw [List.zipWith_cons_cons, List.map_cons, List.sum_cons, h3, List.length_cons]
    omega
theorem tot_braced (ps : List Txt) (q : LvP) (ops : List (Txt × List Txt)) (bs : List LvP) (h : ∀ o ∈ ops, o.1.length ≤ 12 ∧ o.2.length ≤ 4 ∧ ∀ x ∈ o.2, x.length ≤ 12) (hb : bs.length ≤ 9) : tot (bracedP ps q ops bs) ≤ tot ps + 700 + tot (atP 0 q) + sumP bs := by
  unfold bracedP bracesP
  have h1 := tot_braces ops bs h
  have h2 := tot_list [59, 32] (List.zipWith armP ops bs)
  rw [tot_append, tot_append, tot_append, tot_append, tot_append, tot_append, tot_append]
  have h3 : tot [([32] : Txt)] = 1 := rfl
  have h4 : tot [([123, 32] : Txt)] = 2 := rfl
  have h5 : tot [([125] : Txt)] = 1 := rfl
  have h6 : tot (if bs.length = 0 then [] else [([32] : Txt)]) ≤ 1 := by split <;> decide
  have h7 : ([59, 32] : Txt).length = 2 := rfl
  rw [h7] at h2
  rw [h3, h4, h5]
  omega
theorem nodeP_tot (k n : Int) (s t : Txt) (ns : List Txt) (l : List LvP) (ops : List (Txt × List Txt)) (bs : List LvP) (h : Small n s t ns ops l.length bs.length) : tot (nodeP k n s t ns l ops bs) ≤ 950 + sumP l + sumP bs := by
  obtain ⟨hnl, hs, ht, ⟨hn1, hn2⟩, ho, hb, hi⟩ := h
  have hsp := tot_spaced ns hn2
  have hb0 := tot_behind l
  have h0 := nth_tot l 0
  have h01 := nth_tot2 l
  have hbr := fun ps => tot_braced ps (nth l 0) ops bs ho hb
  have hg : (ns.getD 0 []).length ≤ 12 := by
    cases ns with
    | nil => simp
    | cons x r => exact hn2 x (by simp)
  unfold nodeP
  split
  · show s.length + 0 ≤ _; omega
  · split
    · show 1 + ((Lib.itoa n).length + (1 + 0)) ≤ _; omega
    · show (Lib.itoa n).length + 0 ≤ _; omega
  · split
    · show 5 ≤ _; omega
    · show 4 ≤ _; omega
  · show 2 ≤ _; omega
  · unfold openP; rw [tot_append, tot_append]; have := hb0 [[32, 45, 62, 32]]; have h1 : tot [([32, 45, 62, 32] : Txt)] = 4 := rfl; have h2 : tot [([102, 117, 110] : Txt)] = 3 := rfl; omega
  · rw [tot_append, tot_append]; have := h01 4 5; have h3 : tot [([32] : Txt)] = 1 := rfl; omega
  · unfold openP; rw [tot_append, tot_append]; have := hb0 [[32, 61, 32], [32, 105, 110, 32]]; have h1 : tot [([32, 61, 32] : Txt), [32, 105, 110, 32]] = 7 := rfl; have h2 : tot [([108, 101, 116] : Txt)] = 3 := rfl; omega
  · unfold openP; rw [tot_append, tot_append]; have := hb0 [[32, 61, 32], [32, 105, 110, 32]]; have h1 : tot [([32, 61, 32] : Txt), [32, 105, 110, 32]] = 7 := rfl; have h2 : tot [([114, 101, 99] : Txt)] = 3 := rfl; omega
  · have := hb0 [[105, 102, 32], [32, 116, 104, 101, 110, 32], [32, 101, 108, 115, 101, 32]]; have h1 : tot [([105, 102, 32] : Txt), [32, 116, 104, 101, 110, 32], [32, 101, 108, 115, 101, 32]] = 15 := rfl; omega
  · rw [tot_append, tot_append]; have := h01 (operandLv ((opLv s).getD 0)) ((opLv s).getD 0 + 1); have h3 : tot [([32] : Txt), s, [32]] = 1 + (s.length + 1) := rfl; omega
  · rw [tot_append]
    have h3 : tot [s] = s.length := rfl
    split
    · have h4 : tot ([] : List Txt) = 0 := rfl; omega
    · rw [tot_append, tot_append]
      have h4 : tot [([91] : Txt)] = 1 := rfl
      have h5 : tot [([93] : Txt)] = 1 := rfl
      have h6 : tot (listP [44, 32] (l.map (atP 0))) ≤ ((l.map (atP 0)).map fun y => 2 + tot y).sum := tot_list [44, 32] (l.map (atP 0))
      have h7 : ∀ l : List LvP, ((l.map (atP 0)).map fun y => 2 + tot y).sum ≤ 2 * l.length + sumP l := by
        intro l
        induction l with
        | nil => simp
        | cons x r ih =>
          have g1 := tot_at 0 x
          have g2 : sumP (x :: r) = (tot x.2 + 2) + sumP r := rfl
          rw [List.map_cons, List.map_cons, List.sum_cons, g2, List.length_cons]
          omega
      have h8 := h7 l
      omega
  · have := hbr [[109, 97, 116, 99, 104]]; have := h0 0; have h3 : tot [([109, 97, 116, 99, 104] : Txt)] = 5 := rfl; omega
  · unfold callP; rw [tot_append, tot_append]; have := h0 5; have h3 : tot [([32] : Txt)] = 1 := rfl; have h4 : tot [([100, 111, 32] : Txt), s] = 3 + s.length := rfl; omega
  · unfold callP; rw [tot_append, tot_append]; have := h0 5; have h3 : tot [([32] : Txt)] = 1 := rfl; have h4 : tot [s, [46], t] = s.length + (1 + t.length) := rfl; omega
  · have := hbr [if n = 1 then [115, 104, 97, 108, 108, 111, 119, 32] else [104, 97, 110, 100, 108, 101, 32], s]
    have := h0 0
    have h3 : tot [if n = 1 then ([115, 104, 97, 108, 108, 111, 119, 32] : Txt) else [104, 97, 110, 100, 108, 101, 32], s] ≤ 8 + s.length := by
      split
      · exact Nat.le_refl _
      · show 7 + s.length ≤ _; omega
    omega
  · have := hbr [[110, 97, 109, 101, 100, 32], ns.getD 0 [], [32], s]; have := h0 0; have h3 : tot [([110, 97, 109, 101, 100, 32] : Txt), ns.getD 0 [], [32], s] = 6 + ((ns.getD 0 []).length + (1 + s.length)) := rfl; omega
  · unfold callP; rw [tot_append, tot_append]; have := h0 5; have h3 : tot [([32] : Txt)] = 1 := rfl; have h4 : tot [([109, 97, 115, 107, 32] : Txt), s] = 5 + s.length := rfl; omega
  · rw [tot_append]
    have := hb0 [[32, 61, 32], [32, 99, 108, 111, 115, 101, 32], [32, 105, 110, 32]]
    have h1 : tot [([32, 61, 32] : Txt), [32, 99, 108, 111, 115, 101, 32], [32, 105, 110, 32]] = 14 := rfl
    have h2 := join_len (ns.drop 1) [44, 32] (fun x hx => hn2 x (List.mem_of_mem_drop hx)) rfl
    have h3 : (ns.drop 1).length ≤ 13 := by rw [List.length_drop]; omega
    have h4 : tot [([117, 115, 105, 110, 103, 32] : Txt), ns.getD 0 [], [32, 91], Lib.join (ns.drop 1) [44, 32], [93]] = 6 + ((ns.getD 0 []).length + (2 + ((Lib.join (ns.drop 1) [44, 32]).length + 1))) := rfl
    omega
  · unfold callP; rw [tot_append, tot_append]; have := h0 5; have h3 : tot [([32] : Txt)] = 1 := rfl; have h4 : tot [([114, 101, 115, 117, 109, 101, 32] : Txt), s] = 7 + s.length := rfl; omega
  · show 5 + (s.length + 0) ≤ _; omega

theorem nm_small {k : Int} {l : Txt} (h : isNm k l = true) : l.length ≤ 12 := by
  cases l with
  | nil => simp
  | cons c r =>
    unfold isNm at h
    simp only [Bool.and_eq_true, decide_eq_true_eq] at h
    have := h.1.1
    simp only [List.length_cons]; omega
theorem nameHas_small {c : Int} {s : Txt} (h : nameHas c s = true) : s.length ≤ 12 := by
  unfold nameHas at h
  split at h
  · unfold isV at h; rw [Bool.and_eq_true] at h; exact nm_small h.1
  · split at h
    · exact nm_small h
    · split at h
      · unfold opLv at h
        split at h
        · rename_i e; rw [e]; decide
        · split at h
          · rename_i e; rcases e with e | e <;> rw [e] <;> decide
          · split at h
            · rename_i e; rcases e with e | e <;> rw [e] <;> decide
            · simp at h
      · have : s = [] := by simpa using h
        rw [this]; decide
theorem nmErr_all (c : Int) : ∀ (ns seen : List Txt), nmErr c seen ns = 0 → ∀ x ∈ ns, nameHas c x = true
  | [], _, _, x, hx => by simp at hx
  | y :: r, seen, h, x, hx => by
    unfold nmErr at h
    split at h
    · cases h
    · rename_i h1
      split at h
      · cases h
      · rcases List.mem_cons.1 hx with rfl | hx
        · simpa using h1
        · exact nmErr_all c r _ h x hx
theorem armErr_small {a : Int} {qu qv : Bool} {op : Txt} {n : Nat} {first : Bool} (h : armErr a qu qv op n first = 0) (hu : qu = true → op.length ≤ 12) (hv : qv = true → op.length ≤ 12) : op.length ≤ 12 ∧ n ≤ 4 := by
  unfold armErr at h
  split at h
  · split at h
    · cases h
    · rename_i h1
      split at h
      · cases h
      · rename_i h2
        exact ⟨hu (by simpa using h2), by simp at h1; omega⟩
  · split at h
    · split at h
      · cases h
      · rename_i h1
        simp only [Bool.not_eq_false, Bool.and_eq_true, beq_iff_eq] at h1
        exact ⟨by rw [h1.1]; decide, by omega⟩
    · split at h
      · cases h
      · rename_i h1
        split at h
        · cases h
        · rename_i h2
          exact ⟨hv (by simpa using h2), by simp at h1; omega⟩
theorem armsErr_all (a : Int) : ∀ (ops seen : Hds), armsErr a seen ops = 0 → ∀ o ∈ ops, o.1.length ≤ 12 ∧ o.2.length ≤ 4 ∧ ∀ x ∈ o.2, x.length ≤ 12
  | [], _, _, o, ho => by simp at ho
  | y :: r, seen, h, o, ho => by
    unfold armsErr at h
    split at h
    · rename_i h1
      split at h
      · rename_i h2
        split at h
        · cases h
        · rcases List.mem_cons.1 ho with rfl | ho
          · have h4 := armErr_small h1 nm_small (fun hv => by unfold isV at hv; rw [Bool.and_eq_true] at hv; exact nm_small hv.1)
            exact ⟨h4.1, h4.2, fun x hx => nameHas_small (nmErr_all 1 _ _ h2 x hx)⟩
          · exact armsErr_all a r _ h o ho
      · rename_i h2; exact absurd h h2
    · rename_i h1; exact absurd h h1
end Go.Proofs.YtbmicnajedeenaaGreatDoor
/- Show: the text of a well-formed expression. -/
namespace Go.Proofs.YtbmicnajedeenaaGreatDoor
open Go.RowKit

theorem useCnt : ∀ k, k < 20 → useOf k 3 + useOf k 4 ≤ 13 ∧ useOf k 5 + useOf k 6 ≤ 4 := by decide
theorem numHas_bd {c n : Int} (h : numHas c n = true) : -999999999 ≤ n ∧ n ≤ 999999999 := by
  unfold numHas at h
  split at h
  · simp at h; omega
  · split at h
    · simp at h; omega
    · split at h
      · simp at h; omega
      · simp at h; omega
theorem nms_small {k : Int} {ns : List Txt} (h : nmsErr k ns = 0) : ∀ x ∈ ns, x.length ≤ 12 := by
  unfold nmsErr at h
  intro x hx
  split at h
  · split at h
    · rename_i h1
      rw [← List.take_append_drop 1 ns] at hx
      rcases List.mem_append.1 hx with hx | hx
      · exact nameHas_small (nmErr_all 1 _ _ h1 x hx)
      · exact nameHas_small (nmErr_all 2 _ _ h x hx)
    · rename_i h1; exact absurd h h1
  · exact nameHas_small (nmErr_all 1 _ _ h x hx)
theorem small_of {k n : Int} {s t : Txt} {ns : List Txt} {nl nb : Nat} {ops : List (Txt × List Txt)} {kn : Nat} (H : Shape k n s t ns nl nb ops kn) : Small n s t ns ops nl nb := by
  have hu := useCnt kn H.lt
  have h1 := cnt_ge H.parts
  have h2 := cnt_ge H.names
  have h3 := numHas_bd H.num
  refine ⟨by omega, nameHas_small H.s1, nameHas_small H.t1, ⟨by omega, nms_small H.nms⟩, armsErr_all _ _ _ H.arms, ?_, ?_⟩
  · have := H.room
    unfold roomB at this
    simp at this
    omega
  · exact Lib.itoa_length_le n (by omega) (by omega)
theorem nodesE_len : ∀ (d d' : Int), (∀ e, (nodesE d e).length = (nodesE d' e).length) := by
  intro d d' e
  induction e using Ex.ind generalizing d d' with
  | h e ih =>
    cases e with
    | mk k n s t ns l ops bs =>
      have key : ∀ (L : List Ex), (∀ x ∈ L, ∀ a b : Int, (nodesE a x).length = (nodesE b x).length) → ∀ a b : Int, (nodesL a L).length = (nodesL b L).length := by
        intro L
        induction L with
        | nil => intro _ a b; simp [nodesL]
        | cons y r ihr =>
          intro hL a b
          simp only [nodesL, List.length_append]
          rw [hL y (by simp) a b, ihr (fun x hx => hL x (by simp [hx])) a b]
      simp only [nodesE, List.length_cons, List.length_append]
      rw [key l (fun x hx a b => ih x (by simp [Ex.parts, Ex.l, Ex.bs, hx]) a b) (d + 1) (d' + 1), key bs (fun x hx a b => ih x (by simp [Ex.parts, Ex.l, Ex.bs, hx]) a b) (d + 1) (d' + 1)]
theorem tot_pcs : ∀ e, wfE e → ∀ d, tot (pcs e) + 2 ≤ 1000 * (nodesE d e).length := by
  refine Ex.ind fun e ih h d => ?_
  cases e with
  | mk k n s t ns l ops bs =>
  obtain ⟨h0, h1, h2⟩ := h.parts
  obtain ⟨kn, H⟩ := shape_of h0
  have key : ∀ (L : List Ex), (∀ x ∈ L, tot (pcs x) + 2 ≤ 1000 * (nodesE (d + 1) x).length) → sumP (L.map Ex.lp) ≤ 1000 * (nodesL (d + 1) L).length := by
    intro L
    induction L with
    | nil => intro _; simp [sumP]
    | cons y r ihr =>
      intro hL
      have g1 := hL y (by simp)
      have g2 := ihr (fun x hx => hL x (by simp [hx]))
      have g3 : sumP ((y :: r).map Ex.lp) = (tot (pcs y) + 2) + sumP (r.map Ex.lp) := rfl
      simp only [nodesL, List.length_append]
      rw [g3]; omega
  have a1 := key l (fun x hx => ih x (by simp [Ex.parts, Ex.l, Ex.bs, hx]) (h1 x hx) (d + 1))
  have a2 := key bs (fun x hx => ih x (by simp [Ex.parts, Ex.l, Ex.bs, hx]) (h2 x hx) (d + 1))
  have a3 := nodeP_tot k n s t ns (l.map Ex.lp) ops (bs.map Ex.lp) (by rw [List.length_map, List.length_map]; exact small_of H)
  rw [pcs_mk]
  simp only [nodesE, List.length_cons, List.length_append]
  omega
theorem measF_len : ∀ (L : List (Int × Ex)) (s m : Int), (measF s m L).1 ≤ 3000 → (measF s m L).2 ≤ 200 → (measF s m L).1 = s + L.length
  | [], s, m, _, _ => by simp [measF]
  | (d, x) :: r, s, m, h1, h2 => by
    unfold measF at h1 h2 ⊢
    split at h1
    · rename_i hc
      rw [if_pos hc] at h2
      simp only at h1 h2
      omega
    · rename_i hc
      rw [if_neg hc] at h2 ⊢
      have := measF_len r _ _ h1 h2
      rw [this, List.length_cons]; omega
/-- a tree that Check accepts -/
theorem msd_ok {e : Ex} (h : (msd chkN e).2.2 = 0) : wfE e ∧ (nodesE 1 e).length ≤ 3000 ∧ (msd chkN e).1 = (nodesE 1 e).length ∧ (msd chkN e).2.1 = (measF 0 0 (nodesE 1 e)).2 := by
  unfold msd at h ⊢
  split at h
  · cases h
  · rename_i hc
    rw [if_neg hc]
    split at h
    · rename_i h0
      rw [if_pos h0]
      have h1 := measF_len (nodesE 1 e) 0 0 (by omega) (by omega)
      refine ⟨firstF_zero h0, by omega, by simp only; omega, rfl⟩
    · rename_i h0; exact absurd h h0
end Go.Proofs.YtbmicnajedeenaaGreatDoor
/- Show. -/
namespace Go.Proofs.YtbmicnajedeenaaGreatDoor
open Go.RowKit

theorem isNm_ne {k : Int} {s : Txt} (h : isNm k s = true) : 0 < s.length := by
  cases s with
  | nil => simp [isNm] at h
  | cons _ _ => simp
theorem nodeP_pos {k n : Int} {s t : Txt} {ns : List Txt} {nl nb : Nat} {hs : List (Txt × List Txt)} {kn : Nat} (H : Shape k n s t ns nl nb hs kn) (l : List LvP) (ops : List (Txt × List Txt)) (bs : List LvP) (hl : 3 ≤ l.length ∨ kn ≠ 8) : 0 < tot (nodeP k n s t ns l ops bs) := by
  obtain ⟨rfl, lt, num, s1, _, _, _, _, _, _⟩ := H
  have hc : ∀ (a : Txt) (ps : List Txt), 0 < a.length → 0 < tot (a :: ps) := fun a ps h => by have : tot (a :: ps) = a.length + tot ps := rfl; omega
  have ha : ∀ (ps qs : List Txt), 0 < tot ps → 0 < tot (ps ++ qs) := fun ps qs h => by rw [tot_append]; omega
  have hb : ∀ (ps qs : List Txt), 0 < tot qs → 0 < tot (ps ++ qs) := fun ps qs h => by rw [tot_append]; omega
  obtain rfl | rfl | rfl | rfl | rfl | rfl | rfl | rfl | rfl | rfl | rfl | rfl | rfl | rfl | rfl | rfl | rfl | rfl | rfl | rfl : kn = 0 ∨ kn = 1 ∨ kn = 2 ∨ kn = 3 ∨ kn = 4 ∨ kn = 5 ∨ kn = 6 ∨ kn = 7 ∨ kn = 8 ∨ kn = 9 ∨ kn = 10 ∨ kn = 11 ∨ kn = 12 ∨ kn = 13 ∨ kn = 14 ∨ kn = 15 ∨ kn = 16 ∨ kn = 17 ∨ kn = 18 ∨ kn = 19 := by omega
  · have : isV s = true := by simpa [nameHas, show useOf 0 1 = 1 by decide] using s1
    unfold isV at this; rw [Bool.and_eq_true] at this
    exact hc s [] (isNm_ne this.1)
  · show 0 < tot (if n < 0 then [[40], Lib.itoa n, [41]] else [Lib.itoa n])
    have hbd := numHas_bd num
    split
    · exact hc [40] _ (by decide)
    · exact hc _ _ (List.length_pos_iff.2 (itoa_word ⟨by omega, by omega⟩).1)
  · show 0 < tot (if n = 0 then [[102, 97, 108, 115, 101]] else [[116, 114, 117, 101]])
    split <;> decide
  · exact hc [40, 41] [] (by decide)
  · exact ha _ _ (by decide)
  · exact hb _ _ (ha _ _ (by decide))
  · exact ha _ _ (by decide)
  · exact ha _ _ (by decide)
  · cases l with
    | nil => rcases hl with hl | hl
             · simp at hl
             · exact absurd rfl hl
    | cons a r => exact ha _ _ (by decide)
  · exact hb _ _ (ha _ _ (hc [32] _ (by decide)))
  · have : isNm 2 s = true := by simpa [nameHas, show useOf 10 1 = 2 by decide] using s1
    exact ha _ _ (hc s [] (isNm_ne this))
  · exact ha _ _ (by decide)
  · exact ha _ _ (hc _ _ (by decide))
  · exact hb _ _ (ha _ _ (by decide))
  · refine ha _ _ (hc _ _ ?_)
    split <;> decide
  · exact ha _ _ (hc _ _ (by decide))
  · exact ha _ _ (hc _ _ (by decide))
  · exact ha _ _ (hc _ _ (by decide))
  · exact ha _ _ (hc _ _ (by decide))
  · exact hc _ _ (by decide)
theorem pcs_pos {e : Ex} (h : wfE e) : 0 < tot (pcs e) := by
  cases e with
  | mk k n s t ns l ops bs =>
  obtain ⟨h0, h1, h2⟩ := h.parts
  obtain ⟨kn, H⟩ := shape_of h0
  rw [pcs_mk]
  refine nodeP_pos H _ _ _ ?_
  rw [List.length_map]
  by_cases h8 : kn = 8
  · subst h8
    have := cnt_ge H.parts
    exact .inl (len_ge this.1 (b := 3) (by decide))
  · exact .inr h8
theorem flatten_len : ∀ (ps : List Txt), ps.flatten.length = tot ps
  | [] => rfl
  | s :: r => by rw [List.flatten_cons, List.length_append, flatten_len r]; rfl

theorem cellsU8 : Tryz.prog.cellsOf 5 = 1 := by kernel_rfl
set_option maxRecDepth 100000 in
set_option maxHeartbeats 2000000 in
theorem string_any (B p m : Nat) (lim : Int) (bs : Txt) (w : World) (h : PB B p m lim bs w) (h0 : bs ≠ []) :
    Calls Tryz.prog 28 #[.pointer (some ⟨p, 0, none⟩)] w fun e w' => e = .returned (.string (strB bs)) ∧ Below B w w' := by
  obtain ⟨a, v, ha, hbk, hown, hne⟩ := h
  have hl0 : bs.length ≠ 0 := by simpa using h0
  obtain ⟨g, cap, cur, rfl, hbg, hg, hnc, hcm, hcs, htake⟩ : ∃ g cap cur, v = .slice (some ⟨g, 0, none⟩) bs.length cap ∧ B ≤ g ∧ w.heap[g]? = some (.cells cur 5 (0, 0)) ∧ bs.length ≤ cap ∧ cap ≤ maxLen ∧ cur.size = cap * 1 ∧ cur.toList.take (bs.length * 1) = Lib.byteCells bs := by
    rcases hown.2 with ⟨_, hz⟩ | ⟨g, cap, cur, hv, r⟩
    · exact absurd hz hl0
    · exact ⟨g, cap, cur, hv, r⟩
  have c1 : w.drew.cell? ⟨p, 1, none⟩ = some (.slice (some ⟨g, 0, none⟩) bs.length cap) := cell_of_row w.drew p 1 _ _ (0, 0) hbk
  have hSD : (Builtin.unsafeSliceData_ #[90] 131 #[.slice (some ⟨g, 0, none⟩) bs.length cap]).run Tryz.prog w.drew = .ok (.pointer (some ⟨g, 0, none⟩)) w.drew :=
    Lib.run_unsafeSliceData_row _ _ _ _ _ _ (by omega)
  have hUS : (Builtin.unsafeString_ #[131, 3] 9 #[.pointer (some ⟨g, 0, none⟩), .int .i64 bs.length]).run Tryz.prog w.drew = .ok (.string (strB bs)) (w.drew.freeze ⟨g, 0, none⟩ bs.length) := by
    refine Lib.run_unsafeString_row w.drew 131 3 9 5 Tryz.underlying131 cellsU8 g cur.size (by have hg' : w.drew.heap[g]? = some (.cells cur 5 (0, 0)) := hg; simp [World.shape?, hg']) bs h0 (by omega) (by unfold maxLen at hcm; omega) ?_
    intro j x hx
    have := hown.cells (g := g) rfl j (.int .u8 x.toNat) (by simp [Lib.byteCells, hx])
    exact this
  clear hown hbk hg htake hcs
  go_enter Tryz.func28, Tryz.ntmps28
  go_wp2
  go_region
  all_goals (go_wp2; go_ret; exact ⟨rfl, Lib.below_freeze (Below.drew (Below.refl B w)) (p := ⟨g, 0, none⟩) hbg _⟩)

/-- what Show returns of a tree -/
def showS (e : Ex) : Txt × Int := if (msd chkN e).2.2 = 0 then (textE e, 0) else ([], (msd chkN e).2.2)
set_option maxRecDepth 100000 in
set_option maxHeartbeats 4000000 in
theorem Show_any (P : Nat → Prop) (e : Ex) (k n : Int) (s t : ByteArray) (A0 : Option Addr) (n0 c0 : Nat) (A1 : Option Addr) (n1 c1 : Nat) (A2 : Option Addr) (n2 c2 : Nat) (w : World)
    (hre : RepE P w e [.int .i64 k, .int .i64 n, .string s, .string t, .slice A0 n0 c0, .slice A1 n1 c1, .slice A2 n2 c2]) (hh : hE e ≤ 900000) (hu : Uses w) (hT : Tab w) :
    Calls Tryz.prog 9 #[.agg #[.int .i64 k, .int .i64 n, .string s, .string t, .slice A0 n0 c0, .slice A1 n1 c1, .slice A2 n2 c2]] w fun r w' => r = .returned (.tuple #[.string (strB (showS e).1), .int .i64 (showS e).2]) ∧ Below w.heap.size w w' := by
  obtain ⟨W1, hW1⟩ : ∃ W1, w.alloc (.cells #[.int .i64 k, .int .i64 n, .string s, .string t, .slice A0 n0 c0, .slice A1 n1 c1, .slice A2 n2 c2] 30) = W1 := ⟨_, rfl⟩
  have HB1 : Hid (Below w.heap.size w W1) := Lib.hid (by rw [← hW1]; exact (Below.refl _ _).alloc (Nat.le_refl _) _)
  have HE1 : Hid (EB W1 w.heap.size (.int .i64 k) (.int .i64 n) (.string s) (.string t) (.slice A0 n0 c0) (.slice A1 n1 c1) (.slice A2 n2 c2)) := Lib.hid (by rw [← hW1]; exact EB.new w _ _ _ _ _ _ _)
  have HC := Lib.hid (Check_any chkN (Lib.hid chkN_says) P e k n s t A0 n0 c0 A1 n1 c1 A2 n2 c2 W1 (hre.keep (Same.of_below HB1.out)) hh (hu.below HB1.out))
  have HRe : Hid (∀ w', Below w.heap.size w w' → RepE (fun b => b < w'.heap.size) w' e [.int .i64 k, .int .i64 n, .string s, .string t, .slice A0 n0 c0, .slice A1 n1 c1, .slice A2 n2 c2]) := Lib.hid (fun w' hb => (hre.keep (Same.of_below hb)).tight.weaken (fun x hx => hx.2))
  have HTa : Hid (∀ w', Below w.heap.size w w' → Tab w') := Lib.hid (fun w' hb => by
    obtain ⟨t, fr, ht⟩ := hT
    exact ⟨t, fr, (hb.block _ (Array.getElem?_eq_some_iff.1 ht).1).trans ht⟩)
  obtain ⟨V, hV⟩ : ∃ V, V = (msd chkN e).2.2 := ⟨_, rfl⟩
  rw [← hV] at HC
  have e0 := HE1.out.c0
  have e1 := HE1.out.c1
  have e2 := HE1.out.c2
  have e3 := HE1.out.c3
  have e4 := HE1.out.c4
  have e5 := HE1.out.c5
  have e6 := HE1.out.c6
  obtain ⟨X, hX⟩ : ∃ X, X = showS e := ⟨_, rfl⟩
  rw [← hX]
  clear hre hh hu hT
  by_cases hv : V = 0
  · have hok := msd_ok (hV.symm.trans hv)
    have HR : Hid (X = (textE e, 0)) := Lib.hid (by rw [hX]; unfold showS; exact if_pos (hV.symm.trans hv))
    have htot : tot (pcs e) + 2 ≤ 3000000 := by have := tot_pcs e hok.1 1; have := hok.2.1; omega
    have htot2 : tot (atP 0 e.lp) ≤ 3000002 := by have := tot_at 0 e.lp; have h2 : tot e.lp.2 = tot (pcs e) := rfl; omega
    have hne := pcs_pos hok.1
    have HEx := Lib.hid (expr_all e hok.1)
    have HAt : Hid (atP 0 e.lp = pcs e) := Lib.hid (by
      unfold atP
      refine if_pos ?_
      cases e with
      | mk k n s t ns l ops bs =>
        show 0 ≤ lvO k s
        unfold lvO
        split
        · cases ho : opLv s with
          | none => exact Int.le_refl _
          | some m =>
            show 0 ≤ m
            unfold opLv at ho
            split at ho
            · injection ho with h; omega
            · split at ho
              · injection ho with h; omega
              · split at ho
                · injection ho with h; omega
                · cases ho
        · split
          · exact Int.le_refl _
          · split <;> decide)
    have HL : Hid (([] : Txt).length + tot (atP 0 e.lp) ≤ 140737488355328) := Lib.hid (by show 0 + _ ≤ _; omega)
    have HW : Hid (wrs 9223372036854775807 [] (atP 0 e.lp) = textE e) := Lib.hid (by
      rw [HAt.out]
      have := wrs_all 9223372036854775807 (pcs e) [] (by show ((0 + tot (pcs e) : Nat) : Int) ≤ _; omega)
      rw [this, List.nil_append]; rfl)
    have HNe : Hid (textE e ≠ []) := Lib.hid (by
      intro h
      have := flatten_len (pcs e)
      unfold textE at h
      rw [h] at this
      simp at this; omega)
    clear hV hX hok htot htot2 hne
    subst hv
    go_enter Tryz.func9, Tryz.ntmps9
    go_wp2_with fail
    clear hW1
    refine HC.out.mono ?_
    rintro r w2 ⟨rfl, hb⟩
    have HB2 := Lib.hid (HB1.out.trans (hb.mono HB1.out.size))
    have HE2 := Lib.hid (HE1.out.kept (grown_below hb none) (by simp))
    clear hb e0 e1 e2 e3 e4 e5 e6
    go_wp2_with fail
    refine (newPrinter_any 9223372036854775807 w2 (HTa.out w2 HB2.out)).mono ?_
    rintro r w3 ⟨rfl, hp3, hb3⟩
    have HB3 := Lib.hid (HB2.out.trans (hb3.mono HB2.out.size))
    have HE3 := Lib.hid (HE2.out.kept (grown_below hb3 none) (by simp))
    have HC2 := Lib.hid (HEx.out w2.heap.size w2.heap.size _ _ 9223372036854775807 [] 0 _ w3 hp3 ((HRe.out w2 HB2.out).keep (Same.of_below hb3)) HL.out)
    have HZ2 := Lib.hid HB2.out.size
    have e0 := HE3.out.c0
    have e1 := HE3.out.c1
    have e2 := HE3.out.c2
    have e3 := HE3.out.c3
    have e4 := HE3.out.c4
    have e5 := HE3.out.c5
    have e6 := HE3.out.c6
    clear hp3 hb3 HC
    go_wp2_with fail
    refine HC2.out.mono ?_
    rintro r w4 ⟨rfl, hp4⟩
    have HB4 := Lib.hid (HB3.out.trans (hp4.2.1.mono HZ2.out))
    have hpb := Pr.pb hp4.1
    rw [HW.out] at hpb
    have HS := Lib.hid (string_any _ _ _ _ _ w4 hpb HNe.out)
    clear hp4 hpb e0 e1 e2 e3 e4 e5 e6 HC2
    go_wp2_with fail
    refine HS.out.mono ?_
    rintro r w5 ⟨rfl, hb5⟩
    have HB5 := Lib.hid (HB4.out.trans (hb5.mono HZ2.out))
    clear hb5
    go_wp2_with fail
    go_ret2
    exact ⟨by rw [HR.out]; rfl, HB5.out⟩
  · have HR : Hid (X = ([], V)) := Lib.hid (by rw [hX]; unfold showS; rw [← hV]; exact if_neg hv)
    have hvb : (V == 0) = false := by simpa using hv
    clear hV hX hv
    go_enter Tryz.func9, Tryz.ntmps9
    go_wp2_with fail
    clear hW1
    refine HC.out.mono ?_
    rintro r w2 ⟨rfl, hb⟩
    have HB2 := Lib.hid (HB1.out.trans (hb.mono HB1.out.size))
    clear hb e0 e1 e2 e3 e4 e5 e6
    go_wp2_with fail
    go_ret2
    exact ⟨by rw [HR.out]; rfl, HB2.out⟩
end Go.Proofs.YtbmicnajedeenaaGreatDoor
/- The law's examples. -/
namespace Go.Proofs.YtbmicnajedeenaaGreatDoor
open Go.RowKit

/-- what the laid variables give a walk -/
def EnvS (w : World) : Prop := Syms w ∧ Uses w ∧ Tab w
theorem EnvS.below {w w' : World} (h : EnvS w) (hb : Below w.heap.size w w') : EnvS w' :=
  ⟨h.1.grown (grown_below hb none) (by simp), h.2.1.below hb, by obtain ⟨t, fr, ht⟩ := h.2.2; exact ⟨t, fr, (hb.block _ (Array.getElem?_eq_some_iff.1 ht).1).trans ht⟩⟩
theorem RepE.sOf {P : Nat → Prop} {w : World} {e : Ex} {k n : Int} {s t : ByteArray} {r : List Value} (h : RepE P w e (.int .i64 k :: .int .i64 n :: .string s :: .string t :: r)) : k = e.k ∧ n = e.n ∧ s = strB e.s ∧ t = strB e.t := by
  cases e
  obtain ⟨An, cn, Al, cl, Aa, ca, e, _⟩ := h
  simp only [exCells, List.cons.injEq, Value.int.injEq, Value.string.injEq, true_and] at e
  exact ⟨e.1, e.2.1, e.2.2.1, e.2.2.2.1⟩
theorem showA : showS exA = ([49, 32, 43, 32, 50, 32, 42, 32, 120, 32, 60, 32, 121], 0) := by kernel_rfl
theorem hEA : hE exA ≤ 900000 := by decide +kernel
set_option maxRecDepth 100000 in
set_option maxHeartbeats 4000000 in
theorem shows_any (w : World) (hE : EnvS w) : Calls Tryz.prog 5 #[] w fun e w' => e = .returned (.bool true) ∧ Below w.heap.size w w' := by
  have HP := Lib.hid (fun w (hE : EnvS w) => parsedA w hE.1 hE.2.1)
  have HF := Lib.hid (fun w (hE : EnvS w) => parseB w hE.1)
  have HEn := Lib.hid hE
  clear hE
  go_enter Tryz.func5, Tryz.ntmps5
  go_wp2_with fail
  refine (HP.out _ HEn.out).mono ?_
  rintro e w1 ⟨k, n, s, t, A0, n0, c0, A1, n1, c1, A2, n2, c2, rfl, hr, hb⟩
  have hs := hr.sOf.2.2.1
  have hse : s = ⟨#[60]⟩ := hs
  subst hse
  have HR1 := Lib.hid hr
  have HB1 := Lib.hid hb
  obtain ⟨W2, hW2⟩ : ∃ W2, w1.alloc (.cells #[.int .i64 k, .int .i64 n, .string ⟨#[60]⟩, .string t, .slice A0 n0 c0, .slice A1 n1 c1, .slice A2 n2 c2] 30) = W2 := ⟨_, rfl⟩
  have HB2 : Hid (Below w.heap.size w W2) := Lib.hid (by rw [← hW2]; exact HB1.out.alloc HB1.out.size _)
  have HE2 : Hid (EB W2 w1.heap.size (.int .i64 k) (.int .i64 n) (.string ⟨#[60]⟩) (.string t) (.slice A0 n0 c0) (.slice A1 n1 c1) (.slice A2 n2 c2)) := Lib.hid (by rw [← hW2]; exact EB.new w1 _ _ _ _ _ _ _)
  have hs2 : Same (fun x => w.heap.size ≤ x) w1 W2 := by rw [← hW2]; exact Same.of_grown (World.grownBy_alloc w1 _ none) (fun _ _ => by simp)
  have HR2 := Lib.hid (HR1.out.keep hs2)
  have HS := Lib.hid (Show_any _ exA k n ⟨#[60]⟩ t A0 n0 c0 A1 n1 c1 A2 n2 c2 W2 HR2.out hEA (HEn.out.below HB2.out).2.1 (HEn.out.below HB2.out).2.2)
  rw [showA] at HS
  obtain ⟨S, hS⟩ : ∃ S, S = strB [49, 32, 43, 32, 50, 32, 42, 32, 120, 32, 60, 32, 121] := ⟨_, rfl⟩
  have hcmp : (S.toList == [49, 32, 43, 32, 50, 32, 42, 32, 120, 32, 60, 32, 121]) = true := by rw [hS, ByteArray.toList_eq, data_strB]; decide
  rw [show (strB (([49, 32, 43, 32, 50, 32, 42, 32, 120, 32, 60, 32, 121] : List UInt8), (0 : Int)).1) = S from hS.symm] at HS
  clear hS
  have g0 := HE2.out.c0
  have g1 := HE2.out.c1
  have g2 := HE2.out.c2
  have g3 := HE2.out.c3
  have g4 := HE2.out.c4
  have g5 := HE2.out.c5
  have g6 := HE2.out.c6
  clear hr hb hs hs2
  go_wp2_with fail
  clear hW2
  refine HS.out.mono ?_
  rintro e w3 ⟨rfl, hb⟩
  have HB3 := Lib.hid (HB2.out.trans (hb.mono HB2.out.size))
  have HE3 := Lib.hid (HE2.out.kept (grown_below hb none) (by simp))
  have HZ := Lib.hid (Size_any chkN (Lib.hid chkN_says) _ exA k n ⟨#[60]⟩ t A0 n0 c0 A1 n1 c1 A2 n2 c2 w3 (HR2.out.keep (Same.of_below hb)) hEA (HEn.out.below HB3.out).2.1)
  rw [msd_exA] at HZ
  clear hb g0 g1 g2 g3 g4 g5 g6 HS
  have g0 := HE3.out.c0
  have g1 := HE3.out.c1
  have g2 := HE3.out.c2
  have g3 := HE3.out.c3
  have g4 := HE3.out.c4
  have g5 := HE3.out.c5
  have g6 := HE3.out.c6
  go_wp2_with fail
  refine HZ.out.mono ?_
  rintro e w4 ⟨rfl, hb⟩
  have HB4 := Lib.hid (HB3.out.trans (hb.mono HB3.out.size))
  have HE4 := Lib.hid (HE3.out.kept (grown_below hb none) (by simp))
  clear hb g0 g1 g2 g3 g4 g5 g6 HZ
  go_wp2_with fail
  refine (HF.out _ (HEn.out.below HB4.out)).mono ?_
  rintro e w5 ⟨rfl, hb⟩
  have HB5 := Lib.hid (HB4.out.trans (hb.mono HB4.out.size))
  have HE5 := Lib.hid (HE4.out.kept (grown_below hb none) (by simp))
  have hz5 := HE5.out.lt
  have g2 := HE5.out.c2
  clear hb
  go_wp2_with fail
  go_ret
  exact ⟨rfl, HB5.out.alloc HB5.out.size _⟩
end Go.Proofs.YtbmicnajedeenaaGreatDoor
