/- Texts put together by program: TyW TyX PgC TyR TyS TyT TyU TyY TyZ TyAa. -/
import Derived.Test.YtbmicnajedeenaaGreatDoorMgG
import Derived.Test.YtbmicnajedeenaaGreatDoorMgC
import Derived.Test.YtbmicnajedeenaaGreatDoorMgD
import Derived.RegionTactic
import Derived.ChangeAlike
/- The program's check of a row. -/
namespace Go.Proofs.YtbmicnajedeenaaGreatDoor
open Go.RowKit Go.Shelf

attribute [local go_sem] Oper.semAt_some

set_option maxRecDepth 100000 in
set_option maxHeartbeats 1000000 in
theorem checkLabel_any (x : Txt × Int) (hs : okS x.1) (w : World) : Calls Tryz.prog 185 #[.agg #[.string (strB x.1), .int .i64 x.2]] w fun e w' => e = .returned (.int .i64 (labErr x)) ∧ Below w.heap.size w w' := by
  obtain ⟨s, n⟩ := x
  have hsz : (strB s).size ≤ maxLen := by rw [strB_size]; exact hs
  have HU := Lib.hid (fun w => IsUpper_any (strB s) w hsz)
  rw [data_strB] at HU
  have HN := Lib.hid (fun w => numHas_any 2 n (by omega) w)
  obtain ⟨R, hR⟩ : ∃ R, R = labErr (s, n) := ⟨_, rfl⟩
  obtain ⟨u, hu⟩ : ∃ k, k = isNm 2 s := ⟨_, rfl⟩
  obtain ⟨v, hv⟩ : ∃ k, k = numHas 2 n := ⟨_, rfl⟩
  obtain ⟨S, hS⟩ : ∃ S, S = strB s := ⟨_, rfl⟩
  have HR : Hid (R = if u = false then 4 else if v = false then 1 else 0) := Lib.hid (by rw [hR, hu, hv]; rfl)
  show Calls Tryz.prog 185 #[.agg #[.string (strB s), .int .i64 n]] w fun e w' => e = .returned (.int .i64 (labErr (s, n))) ∧ Below w.heap.size w w'
  rw [← hu, ← hS] at HU
  rw [← hv] at HN
  rw [← hR, ← hS]
  obtain ⟨W1, hW1⟩ : ∃ W1, w.alloc (.cells #[.string S, .int .i64 n] 140) = W1 := ⟨_, rfl⟩
  have HB1 : Hid (Below w.heap.size w W1) := Lib.hid (by rw [← hW1]; exact (Below.refl _ _).alloc (Nat.le_refl _) _)
  have hx : W1.heap[w.heap.size]? = some (.cells #[.string S, .int .i64 n] 140 (0, 0)) := by rw [← hW1]; exact heap_alloc_new w _
  have HX := Lib.hid hx
  have a0 := cell_of_row W1 w.heap.size 0 _ _ (0, 0) hx
  have a1 := cell_of_row W1 w.heap.size 1 _ _ (0, 0) hx
  simp only [List.getElem?_toArray, List.getElem?_cons_zero, List.getElem?_cons_succ] at a0 a1
  clear hR hu hv hS hs hsz hx
  cases u
  · have HRf : Hid (R = 4) := Lib.hid (by rw [HR.out]; rfl)
    clear HR
    go_enter Tryz.func185, Tryz.ntmps185
    go_wp2_with fail
    clear hW1
    refine (HU.out _).mono ?_
    rintro e w' ⟨rfl, hb⟩
    have HB2 := Lib.hid (HB1.out.trans (hb.mono HB1.out.size))
    clear hb a0 a1
    go_wp2_with fail
    go_ret
    exact ⟨by rw [HRf.out]; rfl, HB2.out⟩
  · cases v
    · have HRf : Hid (R = 1) := Lib.hid (by rw [HR.out]; rfl)
      clear HR
      go_enter Tryz.func185, Tryz.ntmps185
      go_wp2_with fail
      clear hW1
      refine (HU.out _).mono ?_
      rintro e w' ⟨rfl, hb⟩
      have HB2 := Lib.hid (HB1.out.trans (hb.mono HB1.out.size))
      have hx2 := (hb.block _ (Array.getElem?_eq_some_iff.1 HX.out).1).trans HX.out
      clear hb a0 a1
      have a0 := cell_of_row w' w.heap.size 0 _ _ (0, 0) hx2
      have a1 := cell_of_row w' w.heap.size 1 _ _ (0, 0) hx2
      simp only [List.getElem?_toArray, List.getElem?_cons_zero, List.getElem?_cons_succ] at a0 a1
      clear hx2
      go_wp2_with fail
      refine (HN.out _).mono ?_
      rintro e w' ⟨rfl, rfl⟩
      go_wp2_with fail
      go_ret
      exact ⟨by rw [HRf.out]; rfl, HB2.out⟩
    · have HRf : Hid (R = 0) := Lib.hid (by rw [HR.out]; rfl)
      clear HR
      go_enter Tryz.func185, Tryz.ntmps185
      go_wp2_with fail
      clear hW1
      refine (HU.out _).mono ?_
      rintro e w' ⟨rfl, hb⟩
      have HB2 := Lib.hid (HB1.out.trans (hb.mono HB1.out.size))
      have hx2 := (hb.block _ (Array.getElem?_eq_some_iff.1 HX.out).1).trans HX.out
      clear hb a0 a1
      have a0 := cell_of_row w' w.heap.size 0 _ _ (0, 0) hx2
      have a1 := cell_of_row w' w.heap.size 1 _ _ (0, 0) hx2
      simp only [List.getElem?_toArray, List.getElem?_cons_zero, List.getElem?_cons_succ] at a0 a1
      clear hx2
      go_wp2_with fail
      refine (HN.out _).mono ?_
      rintro e w' ⟨rfl, rfl⟩
      go_wp2_with fail
      go_ret
      exact ⟨by rw [HRf.out]; rfl, HB2.out⟩

/-- a label as it is handed on -/
structure Lb where
  i : Nat
  x : Txt × Int
  ok : okS x.1
def lx (y : Lb) : Array Value := #[.int .i64 y.i, .agg #[.string (strB y.x.1), .int .i64 y.x.2]]
set_option maxRecDepth 100000 in
set_option maxHeartbeats 2000000 in
theorem labs_seq (b1 : Nat) (P : Nat → Prop) (A : Option Addr) (nl c : Nat) (L : List (Txt × Int)) (w : World) (hb1 : w.cell? ⟨b1, 0, none⟩ = some (.slice A nl c)) (hp1 : P b1) (hl : LabsAt P w A L) (hnl : nl = L.length) (hlm : nl ≤ maxLen) (hok : ∀ x ∈ L, okS x.1) :
    SeqX 19 193 #[.pointer (some ⟨b1, 0, none⟩)] lx P (fun ys => ys.map Lb.x = L) (fun ps => ps.map Lb.x <+: L) w := by
  intro l J Jx W hg hJ hJx hY h0
  have hc : KC P w W := KC.of_grown hg (fun _ _ => by simp)
  have HC5 : Hid (∀ wr, KC P W wr → wr.cell? ⟨b1, 0, none⟩ = some (.slice A nl c)) := fun wr h => ((hc.trans h).2 _ _ _ hp1 hb1).1
  have c5 := HC5.out W (KC.refl _ _)
  have HL := Lib.hid (hl.keepC hc)
  have HY := Lib.hid hY
  have HNL := Lib.hid hnl
  have HJ := Lib.hid hJ
  have HOk := Lib.hid hok
  unfold maxLen at hlm
  clear hok hl hY hb1 hnl hg hJx hJ hc
  refine callsIn_of_wp Tryz.func193 rfl trivial ?_ rfl
  simp only [Tryz.ntmps193, List.size_toArray, List.length_cons, List.length_nil, Nat.reduceAdd, Nat.reduceSub, Array.replicate_succ, Array.replicate_zero, List.push_toArray, List.append_toArray, List.nil_append, List.cons_append]
  gi_wp2
  gi_loopw [7] (fun i wr => ∃ (k : Nat) (pre : List Lb), k ≤ nl ∧ i = .int .i64 (k : Int) ∧ Hid (pre.map Lb.x = L.take k) ∧ Hid (J pre wr) ∧ Hid (KC P W wr)) (fun i _ => nl - (intOf i).toNat)
  case atStart => exact ⟨0, [], Nat.zero_le _, rfl, Lib.hid (by simp), Lib.hid h0, Lib.hid (KC.refl _ _)⟩
  case round =>
    clear c5
    obtain ⟨k, pre, hk, rfl, hpre, hJs, hkc⟩ := hrel
    by_cases hkl : k < nl
    · have hkl' : k < L.length := by rw [← HNL.out]; exact hkl
      obtain ⟨b, off, rfl, hp, hlt, hr⟩ := HL.out (List.ne_nil_of_length_pos (by omega))
      obtain ⟨hr1, hr2⟩ := hr k _ (List.getElem?_eq_getElem hkl')
      have d1 := (hkc.out.2 _ _ _ hp hr1).1
      have d2 := (hkc.out.2 _ _ _ hp hr2).1
      have c5 := HC5.out wr hkc.out
      have i0 : (0 : Int) ≤ (k : Int) := by omega
      have i1 : (k : Int) < (nl : Int) := by omega
      have HTk : Hid (L.take (k + 1) = L.take k ++ [L[k]]) := Lib.hid (by rw [List.take_add_one, List.getElem?_eq_getElem hkl']; rfl)
      obtain ⟨fn, tmps, assign, body, hy, hR⟩ := HY.out pre ⟨k, L[k], HOk.out _ (List.getElem_mem hkl')⟩ (wr.alloc (.cells #[.string (strB (L[k]).1), .int .i64 (L[k]).2] 140)) (HJ.out.alloc _ hJs.out)
      have HR := Lib.hid hR
      dsimp only [lx] at hy
      obtain ⟨X, hX⟩ : ∃ X, X = strB (L[k]).1 := ⟨_, rfl⟩
      obtain ⟨M, hM⟩ : ∃ X, X = (L[k]).2 := ⟨_, rfl⟩
      obtain ⟨xx, hxx⟩ : ∃ x, x = Lb.mk k L[k] (HOk.out _ (List.getElem_mem hkl')) := ⟨_, rfl⟩
      have HQ : Hid (xx.x = L[k]) := Lib.hid (by rw [hxx])
      rw [← hX, ← hM] at HR hy
      rw [← hX] at d1
      rw [← hM] at d2
      rw [← hxx] at HR
      clear hr hr1 hr2 hp hlt hR hX hM hxx
      gi_wp2
      have HK1 : Hid (KC P W (wr.alloc (.cells #[.string X, .int .i64 M] 140))) := Lib.hid (hkc.out.trans (KC.alloc _ _ _))
      refine HR.out.mono ?_
      rintro e W3 (⟨rfl, hJ3, hk3, _⟩ | ⟨rfl, hJx3, _, _⟩)
      · have HJ3 := Lib.hid hJ3
        have HK3 := Lib.hid (HK1.out.trans hk3)
        clear hJ3 hk3
        gi_wp2
        go_roundw
        case rel => exact ⟨k + 1, pre ++ [xx], by omega, by go_num, Lib.hid (by rw [HTk.out, List.map_append, hpre.out, List.map_cons, List.map_nil, HQ.out]), HJ3, HK3⟩
        case measure => simp [intOf]; omega
      · gi_wp2
        refine bodyPost_ret (results_none rfl _ _ _) rfl ?_
        exact ⟨⟨_, rfl⟩, .inr ⟨_, by
          rw [List.map_append, hpre.out, List.map_cons, List.map_nil, HQ.out]
          rw [← HTk.out]
          exact List.take_prefix _ _, hJx3⟩⟩
    · obtain rfl : k = nl := by omega
      have HALL : Hid (pre.map Lb.x = L) := Lib.hid (by have := hpre.out; rwa [HNL.out, List.take_length] at this)
      have c5 := HC5.out wr hkc.out
      gi_wp2
      go_end0
      exact ⟨⟨_, rfl⟩, .inl ⟨pre, HALL.out, hJs.out⟩⟩
end Go.Proofs.YtbmicnajedeenaaGreatDoor
/- The program's check of a row: the first error of its labels, and its tail. -/
namespace Go.Proofs.YtbmicnajedeenaaGreatDoor
open Go.RowKit Go.Shelf

attribute [local go_sem] Oper.semAt_some

theorem res_firstL {tmps : Array Value} {w : World} {g1 : Nat} {a : Int} (h2 : tmps.getD 4 undef = .pointer (some ⟨g1, 0, none⟩)) (c1 : w.cell? ⟨g1, 0, none⟩ = some (.int .i64 a)) :
    (results Tryz.f183 tmps).run Tryz.prog w = .ok (.int .i64 a) w := by
  have h2' : tmps[4]?.getD undef = .pointer (some ⟨g1, 0, none⟩) := by simpa using h2
  simp [results, Tryz.results183, go_sem, h2', c1]
theorem labsErr_app : ∀ a b, labsErr (a ++ b) = if labsErr a = 0 then labsErr b else labsErr a
  | [], b => by rw [List.nil_append, labsErr, if_pos rfl]
  | x :: r, b => by
    rw [List.cons_append, labsErr, labsErr]
    by_cases h : labErr x = 0
    · rw [if_pos h, if_pos h, labsErr_app r b]
    · rw [if_neg h, if_neg h, if_neg h]

set_option maxRecDepth 100000 in
set_option maxHeartbeats 4000000 in
theorem firstErrorL_any (b1 : Nat) (A : Option Addr) (nl c : Nat) (L : List (Txt × Int)) (w : World) (hb1 : w.cell? ⟨b1, 0, none⟩ = some (.slice A nl c)) (hl1 : b1 < w.heap.size)
    (hL : LabsAt (fun b => b < w.heap.size) w A L) (hnl : nl = L.length) (hlm : nl ≤ maxLen) (hok : ∀ x ∈ L, okS x.1) :
    Calls Tryz.prog 183 #[.func (.func 193) #[] #[.pointer (some ⟨b1, 0, none⟩)], .func (.func 185) #[] #[]] w fun r w' =>
      r = .returned (.int .i64 (labsErr L)) ∧ Below w.heap.size w w' := by
  obtain ⟨W1, hW1⟩ : ∃ W1, (w.alloc (.cells #[.func (.func 185) #[] #[]] 255)).alloc (.cells #[.int .i64 0] 35) = W1 := ⟨_, rfl⟩
  have hg1 : ∀ row, w.grownBy W1 row := fun row => by rw [← hW1]; exact grown_trans (World.grownBy_alloc _ _ _) (World.grownBy_alloc _ _ _)
  have hz1 : W1.heap.size = w.heap.size + 2 := by rw [← hW1]; simp
  have hc1 : KC (fun _ => True) w W1 := KC.of_grown (hg1 none) (fun _ _ => by simp)
  have hB1 : Below w.heap.size w W1 := by rw [← hW1]; exact ((Below.refl _ _).alloc (Nat.le_refl _) _).alloc (by simp) _
  have HS1 : Hid (B1 W1 w.heap.size 255 (.func (.func 185) #[] #[])) := by rw [← hW1]; exact (B1.new w _ _).kept (World.grownBy_alloc _ _ none) (by simp)
  have HS2 : Hid (B1 W1 (w.heap.size + 1) 35 (.int .i64 0)) := by
    rw [← hW1]
    have := B1.new (w.alloc (.cells #[.func (.func 185) #[] #[]] 255)) 35 (.int .i64 0)
    rwa [World.size_alloc] at this
  have hseq := labs_seq b1 (fun b => b ≠ w.heap.size + 1) A nl c L W1 ((hc1.2 _ _ _ trivial hb1).1) (by omega) ((hL.keepC (KC.of_grown (hg1 none) (fun _ _ => by simp))).weaken (fun b hb => by omega)) hnl hlm hok
  have HSeq := Lib.hid hseq
  clear hseq hb1 hL hc1 hok hlm hnl
  refine callsIn_wide (n := 20) |>.1 ?_
  refine callsIn_of_wp_marks Tryz.func183 rfl trivial ?_ rfl
  simp only [Tryz.ntmps183, List.size_toArray, List.length_cons, List.length_nil, Nat.reduceAdd, Nat.reduceSub, Array.replicate_succ, Array.replicate_zero, List.push_toArray, List.append_toArray, List.nil_append, List.cons_append]
  gi_wp2
  clear hW1
  refine range_x (n := 20) (by omega) (gf := 193) (lb := #[.pointer (some ⟨b1, 0, none⟩)]) rfl (enters_of Tryz.func193 (by kernel_rfl) rfl) HSeq.out (fun _ => rfl)
    (fun ps W' => B1 W' (w.heap.size + 1) 35 (.int .i64 0) ∧ KC (fun b => b ≠ w.heap.size + 1) W1 W' ∧ Below w.heap.size w W' ∧ labsErr (ps.map Lb.x) = 0)
    (fun c ps W' => c = .ret ∧ ∃ v : Int, B1 W' (w.heap.size + 1) 35 (.int .i64 v) ∧ Below w.heap.size w W' ∧ v ≠ 0 ∧ labsErr (ps.map Lb.x) = v)
    ?hI ?hIx ?h0 (fun x a' W' => ∃ Bx, W1.heap.size ≤ Bx ∧ CellsAt W' Bx 0 [.string (strB x.x.1), .int .i64 x.x.2] ∧ a' = { tmps := #[.func (.func 193) #[] #[.pointer (some ⟨b1, 0, none⟩)], .func (.func 185) #[] #[], undef, .pointer (some ⟨w.heap.size, 0, none⟩), .pointer (some ⟨w.heap.size + 1, 0, none⟩), undef, .pointer (some ⟨Bx, 0, none⟩), undef,
      .func (.func 193) #[] #[.pointer (some ⟨b1, 0, none⟩)], .int .i64 x.i, .agg #[.string (strB x.x.1), .int .i64 x.x.2], undef, undef, undef, undef, undef, undef], defers := [] })
    ?hAx ?assign ?body ?done ?stop
  case hI =>
    rintro ps A A' row ⟨h1, h2, h3, h4⟩ hg hr
    exact ⟨h1.kept hg (fun e => by have := hr _ e.symm; omega), h2.own hg (fun r e => hr r e), h3.grown hg h3.size (fun k e => by have := hr _ e; omega), h4⟩
  case hIx =>
    rintro c ps A A' row ⟨hc, v, h1, h3, h4⟩ hg hr
    exact ⟨hc, v, h1.kept hg (fun e => by have := hr _ e.symm; omega), h3.grown hg h3.size (fun k e => by have := hr _ e; omega), h4⟩
  case h0 => exact ⟨HS2.out, KC.refl _ _, hB1, rfl⟩
  case hAx =>
    intro x a'
    right
    rintro A l2 o o' ⟨Bx, h1, h2, h3⟩ hl ho
    exact ⟨Bx, h1, CellsAt.keepC (P := fun _ => True) h2 trivial (KC.putObj o' hl ho), h3⟩
  case assign =>
    rintro l2 ps ⟨d, xx, xok⟩ W' K ⟨h1, h2, h3, h4⟩ hz hK
    unfold lx
    gi_wp2
    exact hK _ _ (KeepsFrom.of_grownBy (World.grownBy_alloc W' _ none) (fun j e => by cases e)) (KC.alloc _ _ _) ⟨h1.kept (World.grownBy_alloc _ _ none) (by simp), h2.trans (KC.alloc _ _ _), h3.alloc h3.size _, h4⟩ ⟨W'.heap.size, hz, cellsAt_new _ _ _, rfl⟩
  case body =>
    rintro l2 ps ⟨d, xx, xok⟩ a' W' hl2 ⟨rr, hrr⟩ ⟨h1, h2, h3, h4⟩ ⟨Bx, hBx, hcx, rfl⟩
    have d0 : W'.cell? ⟨Bx, 0, none⟩ = some (.string (strB xx.1)) := hcx 0 _ rfl
    have d1 : W'.cell? ⟨Bx, 1, none⟩ = some (.int .i64 xx.2) := hcx 1 _ rfl
    have x3 := (h2.2 _ _ _ (by omega) HS1.out.c).1
    have HC := Lib.hid (checkLabel_any xx xok W')
    obtain ⟨v, hv⟩ : ∃ v, v = labErr xx := ⟨_, rfl⟩
    obtain ⟨X, hX⟩ : ∃ v, v = strB xx.1 := ⟨_, rfl⟩
    obtain ⟨M, hM⟩ : ∃ v, v = xx.2 := ⟨_, rfl⟩
    rw [← hv, ← hX, ← hM] at HC
    rw [← hX] at d0
    rw [← hM] at d1
    have HSn : Hid (labsErr (((ps ++ [Lb.mk d xx xok]).map Lb.x)) = v) := Lib.hid (by rw [List.map_append, List.map_cons, List.map_nil, labsErr_snoc _ _ h4, hv])
    obtain ⟨y, hy⟩ : ∃ y, y = Lb.mk d xx xok := ⟨_, rfl⟩
    rw [← hy] at HSn
    have HB := Lib.hid h1
    have HK := Lib.hid h2
    have HW := Lib.hid h3
    have h1n : 1 ≤ 20 - 1 - 1 := by omega
    dsimp only
    rw [← hX, ← hM, ← hy]
    clear hcx h1 h2 h3 h4 hv hX hM hy
    by_cases hq : v = 0
    · subst hq
      gi_wp2_with (refine ⟨trivial, ?_⟩; gi_at_call 185; refine (CallsIn.inRound l2 ((callsIn_wide).2 HC.out)).mono ?_; rintro r W3 ⟨rfl, hb⟩)
      have hg := grown_below hb none
      exact ⟨KeepsFrom.of_grownBy hg (fun j e => by cases e), KC.of_grown hg (fun _ _ => by simp), HB.out.kept hg (by simp), HK.out.trans (KC.of_grown hg (fun _ _ => by simp)), HW.out.grown hg HW.out.size (fun j e => by cases e), HSn.out⟩
    · have hqb : (v == 0) = false := beq_eq_false_iff_ne.2 hq
      gi_wp2_with (refine ⟨trivial, ?_⟩; gi_at_call 185; refine (CallsIn.inRound l2 ((callsIn_wide).2 HC.out)).mono ?_; rintro r W3 ⟨rfl, hb⟩; have HB3 := Lib.hid (HB.out.kept (grown_below hb none) (by simp)); have c4 := HB3.out.c; have f4 := HB3.out.fr 0)
      have hg := grown_below hb none
      have hg2 := grown_set W3 ⟨w.heap.size + 1, 0, none⟩ (.int .i64 v)
      exact ⟨(KeepsFrom.of_grownBy hg (fun j e => by cases e)).trans ((KeepsOthers.setCell W3 ⟨w.heap.size + 1, 0, none⟩ (.int .i64 v)).from _), (KC.of_grown hg (fun _ _ => by simp)).trans (KC.of_grown hg2 (fun b hb e => hb (Option.some.inj e))), rfl, v, HB3.out.set _, (HW.out.grown hg HW.out.size (fun j e => by cases e)).grown hg2 (Nat.le_trans HW.out.size hg.size) (fun k e => by have : w.heap.size + 1 = k := Option.some.inj e; omega), hq, HSn.out⟩
  case done =>
    rintro D ys W' hD hS ⟨h1, h2, h3, h4⟩ hKD
    have c4 := h1.c
    have f4 := h1.fr 0
    gi_wp2
    have hg := grown_set W' ⟨w.heap.size + 1, 0, none⟩ (.int .i64 0)
    have hKD' := (KeepsOthers.setCell W' ⟨w.heap.size + 1, 0, none⟩ (.int .i64 0)).same D _ hKD rfl
    have hB := h3.grown hg h3.size (fun k e => by have : w.heap.size + 1 = k := Option.some.inj e; omega)
    refine ⟨by simp, .inl ⟨_, _, rfl, run_takeDeferred hKD', ?_⟩⟩
    refine ⟨_, res_firstL rfl ((KC.putObj (P := fun _ => True) (.deferred none) hKD' rfl).2 _ _ _ trivial (h1.set (.int .i64 0)).c).1, ?_, hB.grown (grownBy_putObj' _ D (.deferred none)) hB.size (fun k e => by have : D = k := Option.some.inj e; omega)⟩
    rw [hS] at h4
    rw [h4]
  case stop =>
    rintro D c ps W' hD hSp ⟨rfl, v, h1, h3, hv, h4⟩ hKD
    gi_wp2
    refine ⟨by simp, .inl ⟨_, _, rfl, run_takeDeferred hKD, ?_⟩⟩
    refine ⟨_, res_firstL rfl ((KC.putObj (P := fun _ => True) (.deferred none) hKD rfl).2 _ _ _ trivial h1.c).1, ?_, h3.grown (grownBy_putObj' _ D (.deferred none)) h3.size (fun k e => by have : D = k := Option.some.inj e; omega)⟩
    obtain ⟨rest, hrest⟩ := hSp
    rw [← hrest, labsErr_app, h4, if_neg hv]

set_option maxRecDepth 100000 in
set_option maxHeartbeats 4000000 in
theorem checkRow_any (P : Nat → Prop) (A : Option Addr) (c : Nat) (L : List (Txt × Int)) (tl : Int) (w : World) (hL : LabsAt P w A L) (hl : L.length ≤ maxLen) (hs : ∀ x ∈ L, okS x.1) :
    Calls Tryz.prog 172 #[.agg #[.slice A L.length c, .int .i64 tl]] w fun e w' => e = .returned (.int .i64 (rowErr L tl)) ∧ Below w.heap.size w w' := by
  have hmf : ∀ (fn : Fn) (first cap : Array Value) (w : World), (Instr.makeFunc fn first cap).run Tryz.prog w = .ok (.func fn first cap) w := fun _ _ _ _ => rfl
  have HV : Hid (∀ w, Calls Tryz.prog 184 #[.slice A L.length c] w fun e w' => e = .returned (.func (.func 193) #[] #[.pointer (some ⟨w.heap.size, 0, none⟩)]) ∧ w' = w.alloc (.cells #[.slice A L.length c] 59)) := Lib.hid (fun w => by
    go_enter Tryz.func184, Tryz.ntmps184
    go_wp2_with fail
    go_ret
    exact ⟨rfl, rfl⟩)
  have HF : Hid (∀ w1, Below w.heap.size w w1 → Calls Tryz.prog 183 #[.func (.func 193) #[] #[.pointer (some ⟨w1.heap.size, 0, none⟩)], .func (.func 185) #[] #[]] (w1.alloc (.cells #[.slice A L.length c] 59)) fun r w' =>
      r = .returned (.int .i64 (labsErr L)) ∧ Below w1.heap.size w1 w') := Lib.hid (fun w1 hb => by
    have hb2 := (Below.refl w1.heap.size w1).alloc (Nat.le_refl _) (.cells #[.slice A L.length c] 59)
    refine (firstErrorL_any w1.heap.size A L.length c L _ (B1.new w1 _ _).c (by simp) (((hL.keep (Same.of_below hb)).keep (Same.of_below hb2)).tight) rfl hl hs).mono ?_
    rintro r w' ⟨h1, h2⟩
    exact ⟨h1, hb2.trans (h2.mono (by simp))⟩)
  obtain ⟨n, hn⟩ : ∃ n, n = L.length := ⟨_, rfl⟩
  obtain ⟨R, hR⟩ : ∃ n, n = rowErr L tl := ⟨_, rfl⟩
  obtain ⟨E, hE⟩ : ∃ n, n = labsErr L := ⟨_, rfl⟩
  have HR : Hid (R = if E = 0 then (if (decide (-1 ≤ tl) && decide (tl ≤ 999999999)) = false then 1 else 0) else E) := Lib.hid (by rw [hR, hE]; rfl)
  rw [← hE, ← hn] at HF
  rw [← hn] at HV
  rw [← hn, ← hR]
  obtain ⟨W1, hW1⟩ : ∃ W1, w.alloc (.cells #[.slice A n c, .int .i64 tl] 61) = W1 := ⟨_, rfl⟩
  have HB1 : Hid (Below w.heap.size w W1) := Lib.hid (by rw [← hW1]; exact (Below.refl _ _).alloc (Nat.le_refl _) _)
  have hx : W1.heap[w.heap.size]? = some (.cells #[.slice A n c, .int .i64 tl] 61 (0, 0)) := by rw [← hW1]; exact heap_alloc_new w _
  have HX := Lib.hid hx
  have a0 := cell_of_row W1 w.heap.size 0 _ _ (0, 0) hx
  have a1 := cell_of_row W1 w.heap.size 1 _ _ (0, 0) hx
  simp only [List.getElem?_toArray, List.getElem?_cons_zero, List.getElem?_cons_succ] at a0 a1
  clear hn hR hE hx hL hl hs
  by_cases he : E = 0
  · subst he
    have HR2 : Hid (R = if (decide (-1 ≤ tl) && decide (tl ≤ 999999999)) = false then 1 else 0) := Lib.hid (by rw [HR.out, if_pos rfl])
    by_cases ht : tl < -1
    · have g1 : decide (tl < -1) = true := decide_eq_true ht
      have HRf : Hid (R = 1) := Lib.hid (by rw [HR2.out, if_pos]; simp; omega)
      clear HR HR2 ht
      go_enter Tryz.func172, Tryz.ntmps172
      go_wp2_with fail
      clear hW1
      refine (HV.out _).mono ?_
      rintro e w' ⟨rfl, rfl⟩
      go_wp2_with fail
      refine (HF.out _ HB1.out).mono ?_
      rintro e w' ⟨rfl, hb⟩
      have HB2 := Lib.hid (HB1.out.trans (hb.mono HB1.out.size))
      have hx2 := (hb.block _ (Array.getElem?_eq_some_iff.1 HX.out).1).trans HX.out
      clear hb a0 a1
      have a0 := cell_of_row w' w.heap.size 0 _ _ (0, 0) hx2
      have a1 := cell_of_row w' w.heap.size 1 _ _ (0, 0) hx2
      simp only [List.getElem?_toArray, List.getElem?_cons_zero, List.getElem?_cons_succ] at a0 a1
      clear hx2
      go_wp2_with fail
      go_ret
      exact ⟨by rw [HRf.out]; rfl, HB2.out⟩
    · have g1 : decide (tl < -1) = false := decide_eq_false ht
      by_cases ht2 : 999999999 < tl
      · have g2 : decide (999999999 < tl) = true := decide_eq_true ht2
        have HRf : Hid (R = 1) := Lib.hid (by rw [HR2.out, if_pos]; simp; omega)
        clear HR HR2 ht ht2
        go_enter Tryz.func172, Tryz.ntmps172
        go_wp2_with fail
        clear hW1
        refine (HV.out _).mono ?_
        rintro e w' ⟨rfl, rfl⟩
        go_wp2_with fail
        refine (HF.out _ HB1.out).mono ?_
        rintro e w' ⟨rfl, hb⟩
        have HB2 := Lib.hid (HB1.out.trans (hb.mono HB1.out.size))
        have hx2 := (hb.block _ (Array.getElem?_eq_some_iff.1 HX.out).1).trans HX.out
        clear hb a0 a1
        have a0 := cell_of_row w' w.heap.size 0 _ _ (0, 0) hx2
        have a1 := cell_of_row w' w.heap.size 1 _ _ (0, 0) hx2
        simp only [List.getElem?_toArray, List.getElem?_cons_zero, List.getElem?_cons_succ] at a0 a1
        clear hx2
        go_wp2_with fail
        go_ret
        exact ⟨by rw [HRf.out]; rfl, HB2.out⟩
      · have g2 : decide (999999999 < tl) = false := decide_eq_false ht2
        have HRf : Hid (R = 0) := Lib.hid (by rw [HR2.out, if_neg]; simp; omega)
        clear HR HR2 ht ht2
        go_enter Tryz.func172, Tryz.ntmps172
        go_wp2_with fail
        clear hW1
        refine (HV.out _).mono ?_
        rintro e w' ⟨rfl, rfl⟩
        go_wp2_with fail
        refine (HF.out _ HB1.out).mono ?_
        rintro e w' ⟨rfl, hb⟩
        have HB2 := Lib.hid (HB1.out.trans (hb.mono HB1.out.size))
        have hx2 := (hb.block _ (Array.getElem?_eq_some_iff.1 HX.out).1).trans HX.out
        clear hb a0 a1
        have a0 := cell_of_row w' w.heap.size 0 _ _ (0, 0) hx2
        have a1 := cell_of_row w' w.heap.size 1 _ _ (0, 0) hx2
        simp only [List.getElem?_toArray, List.getElem?_cons_zero, List.getElem?_cons_succ] at a0 a1
        clear hx2
        go_wp2_with fail
        go_ret
        exact ⟨by rw [HRf.out]; rfl, HB2.out⟩
  · have hqb : (E == 0) = false := beq_eq_false_iff_ne.2 he
    have HRf : Hid (R = E) := Lib.hid (by rw [HR.out, if_neg he])
    clear HR
    go_enter Tryz.func172, Tryz.ntmps172
    go_wp2_with fail
    clear hW1
    refine (HV.out _).mono ?_
    rintro e w' ⟨rfl, rfl⟩
    go_wp2_with fail
    refine (HF.out _ HB1.out).mono ?_
    rintro e w' ⟨rfl, hb⟩
    have HB2 := Lib.hid (HB1.out.trans (hb.mono HB1.out.size))
    clear hb a0 a1
    go_wp2_with fail
    go_ret
    exact ⟨by rw [HRf.out]; rfl, HB2.out⟩
end Go.Proofs.YtbmicnajedeenaaGreatDoor
/- First errors of lists, and elements that an iterator hands on. -/
namespace Go.Proofs.YtbmicnajedeenaaGreatDoor
open Go.RowKit Go.Shelf

/-- the first error of a list -/
def firstE {α : Type} (f : α → Int) : List α → Int
  | [] => 0
  | x :: r => if f x = 0 then firstE f r else f x
theorem firstE_app {α : Type} (f : α → Int) : ∀ a b, firstE f (a ++ b) = if firstE f a = 0 then firstE f b else firstE f a
  | [], b => by rw [List.nil_append, firstE, if_pos rfl]
  | x :: r, b => by
    rw [List.cons_append, firstE, firstE]
    by_cases h : f x = 0
    · rw [if_pos h, if_pos h, firstE_app f r b]
    · rw [if_neg h, if_neg h, if_neg h]
theorem firstE_snoc {α : Type} (f : α → Int) (a : List α) (x : α) (h : firstE f a = 0) : firstE f (a ++ [x]) = f x := by
  rw [firstE_app, if_pos h, firstE, firstE]
  by_cases h : f x = 0
  · rw [if_pos h, h]
  · rw [if_neg h]
/-- an element as it is handed on, with its index -/
structure El {α : Type} (R : α → List Value → Prop) (M : α → Prop) where
  i : Nat
  x : α
  cs : List Value
  rep : R x cs
  mem : M x
def elx {α : Type} {R : α → List Value → Prop} {M : α → Prop} (y : El R M) : Array Value := #[.int .i64 y.i, .agg y.cs.toArray]
theorem CnC.shape {P : Nat → Prop} {w : World} {x : Cn} {cs : List Value} (h : CnC P w x cs) : ∃ S A0 n0 m0, cs = [.string S, .slice A0 n0 m0] := by
  obtain ⟨A, c, e, _⟩ := h; exact ⟨_, _, _, _, e⟩
theorem EfC.shape {P : Nat → Prop} {w : World} {x : Ef} {cs : List Value} (h : EfC P w x cs) : ∃ S A0 n0 m0, cs = [.string S, .slice A0 n0 m0] := by
  obtain ⟨A, c, e, _⟩ := h; exact ⟨_, _, _, _, e⟩
theorem DtC.shape {P : Nat → Prop} {w : World} {x : Dt} {cs : List Value} (h : DtC P w x cs) : ∃ S A0 n0 m0 A1 n1 m1, cs = [.string S, .slice A0 n0 m0, .slice A1 n1 m1] := by
  obtain ⟨A, c, A', c', e, _⟩ := h; exact ⟨_, _, _, _, _, _, _, e⟩
theorem OpC.shape {P : Nat → Prop} {w : World} {x : Opn} {cs : List Value} (h : OpC P w x cs) : ∃ S k n s A0 n0 m0 A1 n1 m1 t k' n' s' A0' n0' m0' A1' n1' m1' t' o, cs = [.string S, .int .i64 k, .int .i64 n, .string s, .slice A0 n0 m0, .slice A1 n1 m1, .int .i64 t, .int .i64 k', .int .i64 n', .string s', .slice A0' n0' m0', .slice A1' n1' m1', .int .i64 t', .bool o] := by
  obtain ⟨c1, c2, e, _, h1, h2⟩ := h
  obtain ⟨k, n, s, t, A0, n0, m0, A1, n1, m1, rfl⟩ := h1.shape2
  obtain ⟨k', n', s', t', A0', n0', m0', A1', n1', m1', rfl⟩ := h2.shape2
  exact ⟨_, _, _, _, _, _, _, _, _, _, _, _, _, _, _, _, _, _, _, _, _, _, e⟩
theorem DfC.shape {P : Nat → Prop} {w : World} {x : Df} {cs : List Value} (h : DfC P w x cs) : ∃ S k n s t A0 n0 m0 A1 n1 m1 A2 n2 m2, cs = [.string S, .int .i64 k, .int .i64 n, .string s, .string t, .slice A0 n0 m0, .slice A1 n1 m1, .slice A2 n2 m2] := by
  obtain ⟨c7, e, _, h1⟩ := h
  obtain ⟨k, n, s, t, A0, n0, m0, A1, n1, m1, A2, n2, m2, rfl⟩ := h1.shape
  exact ⟨_, _, _, _, _, _, _, _, _, _, _, _, _, _, e⟩
theorem RepT.shape3 {P : Nat → Prop} {w : World} {e : Ty} {cs : List Value} (h : RepT P w e cs) : ∃ k n s A0 n0 m0 A1 n1 m1 t, cs = [.int .i64 k, .int .i64 n, .string s, .slice A0 n0 m0, .slice A1 n1 m1, .int .i64 t] := by
  obtain ⟨k, n, s, t, A0, n0, m0, A1, n1, m1, rfl⟩ := h.shape2
  exact ⟨_, _, _, _, _, _, _, _, _, _, rfl⟩
end Go.Proofs.YtbmicnajedeenaaGreatDoor
/- A type's nodes, a node ahead of its parts. -/
namespace Go.Proofs.YtbmicnajedeenaaGreatDoor
open Go.RowKit Go.Shelf

attribute [local go_sem] Oper.semAt_some

def fxT {P : Nat → Prop} {w0 : World} (x : Int × PtT (fun _ => True) P w0) : Int × Ty := (x.1, x.2.x)
theorem res_descT {tmps : Array Value} {w : World} {g : Nat} {v : Value} (h8 : tmps.getD 8 undef = .pointer (some ⟨g, 0, none⟩)) (h : w.cell? ⟨g, 0, none⟩ = some v) (hv : v = .bool true ∨ v = .bool false) :
    (results Tryz.f155 tmps).run Tryz.prog w = .ok v w := by
  have h8' : tmps[8]?.getD undef = .pointer (some ⟨g, 0, none⟩) := by simpa using h8
  rcases hv with rfl | rfl <;> simp [results, Tryz.results155, go_sem, h8', h]
/-- how descend ends -/
def DQT {P : Nat → Prop} {w0 : World} (B : Nat) (J Jx : List (Int × PtT (fun _ => True) P w0) → World → Prop) (pre : List (Int × PtT (fun _ => True) P w0)) (d : Int) (e : Ty) (W : World) (r : Ending) (W' : World) : Prop :=
  (r = .returned (.bool true) ∧ ∃ ys, ys.map fxT = nodesT d e ∧ J (pre ++ ys) W' ∧ KC P W W' ∧ KeepsFrom B W W') ∨ (r = .returned (.bool false) ∧ ∃ q, q.map fxT <+: nodesT d e ∧ Jx (pre ++ q) W' ∧ KC P W W' ∧ KeepsFrom B W W')

set_option maxRecDepth 100000 in
set_option maxHeartbeats 4000000 in
theorem descendT_in (l B : Nat) (P : Nat → Prop) (w0 : World) (J Jx : List (Int × PtT (fun _ => True) P w0) → World → Prop) (hJ : Own2 B J) (hJx : Own2 B Jx) (hPB : ∀ b, B ≤ b → P b)
    (hY : ∀ (m : Nat) pre (x : Int × PtT (fun _ => True) P w0) W, J pre W → YieldAt Fence.wide m Tryz.prog l #[.int .i64 x.1, .agg x.2.cs.toArray] W fun e W' =>
      (e = .returned (.bool true) ∧ J (pre ++ [x]) W' ∧ KC P W W' ∧ KeepsFrom B W W') ∨ (e = .returned (.bool false) ∧ Jx (pre ++ [x]) W' ∧ KC P W W' ∧ KeepsFrom B W W')) (e : Ty) :
    ∀ (d : Int) (pre : List (Int × PtT (fun _ => True) P w0)) (cs : List Value) (W : World), RepT P w0 e cs → KC P w0 W → J pre W → B ≤ W.heap.size → 0 ≤ d ∧ d + hT e ≤ 1000000 →
      Calls Tryz.prog 155 #[.agg cs.toArray, .int .i64 d, .func (.func 133) #[] #[], .func (.yield l) #[] #[]] W (DQT B J Jx pre d e W) := by
  refine Ty.ind (P := fun e => ∀ (d : Int) (pre : List (Int × PtT (fun _ => True) P w0)) (cs : List Value) (W : World), RepT P w0 e cs → KC P w0 W → J pre W → B ≤ W.heap.size → 0 ≤ d ∧ d + hT e ≤ 1000000 →
      Calls Tryz.prog 155 #[.agg cs.toArray, .int .i64 d, .func (.func 133) #[] #[], .func (.yield l) #[] #[]] W (DQT B J Jx pre d e W)) ?_ e
  clear e
  intro e ih d pre cs W hre hw hJ0 hB hd
  obtain ⟨k, n, s, t, A0, n0, m0, A1, n1, m1, rfl⟩ := hre.shape2
  obtain ⟨W5, hW5⟩ : ∃ W5, ((((W.alloc (.cells #[.int .i64 k, .int .i64 n, .string s, .slice A0 n0 m0, .slice A1 n1 m1, .int .i64 t] 63)).alloc (.cells #[.int .i64 d] 3)).alloc (.cells #[.func (.func 133) #[] #[]] 212)).alloc (.cells #[.func (.yield l) #[] #[]] 210)).alloc (.cells #[.bool false] 4) = W5 := ⟨_, rfl⟩
  have HE5 : Hid (TyBx W5 W.heap.size (.int .i64 k) (.int .i64 n) (.string s) (.slice A0 n0 m0) (.slice A1 n1 m1) (.int .i64 t)) := by
    rw [← hW5]
    exact ((((TyBx.new W _ _ _ _ _ _).kept (World.grownBy_alloc _ _ none) (by simp)).kept (World.grownBy_alloc _ _ none) (by simp)).kept (World.grownBy_alloc _ _ none) (by simp)).kept (World.grownBy_alloc _ _ none) (by simp)
  have HJ5 : Hid (J pre W5) := Lib.hid (by rw [← hW5]; exact hJ.alloc _ (hJ.alloc _ (hJ.alloc _ (hJ.alloc _ (hJ.alloc _ hJ0)))))
  have hg5 : W.grownBy W5 none := by rw [← hW5]; exact grown_trans (grown_trans (grown_trans (grown_trans (World.grownBy_alloc _ _ _) (World.grownBy_alloc _ _ _)) (World.grownBy_alloc _ _ _)) (World.grownBy_alloc _ _ _)) (World.grownBy_alloc _ _ _)
  have HB5 : Hid (B1 W5 (W.heap.size + 1) 3 (.int .i64 d)) := by
    rw [← hW5]
    have := B1.new (W.alloc (.cells #[.int .i64 k, .int .i64 n, .string s, .slice A0 n0 m0, .slice A1 n1 m1, .int .i64 t] 63)) 3 (.int .i64 d)
    rw [World.size_alloc] at this
    exact ((this.kept (World.grownBy_alloc _ _ none) (by simp)).kept (World.grownBy_alloc _ _ none) (by simp)).kept (World.grownBy_alloc _ _ none) (by simp)
  have HB6 : Hid (B1 W5 (W.heap.size + 1 + 1) 212 (.func (.func 133) #[] #[])) := by
    rw [← hW5]
    have := B1.new ((W.alloc (.cells #[.int .i64 k, .int .i64 n, .string s, .slice A0 n0 m0, .slice A1 n1 m1, .int .i64 t] 63)).alloc (.cells #[.int .i64 d] 3)) 212 (.func (.func 133) #[] #[])
    rw [World.size_alloc, World.size_alloc] at this
    exact (this.kept (World.grownBy_alloc _ _ none) (by simp)).kept (World.grownBy_alloc _ _ none) (by simp)
  have HB7 : Hid (B1 W5 (W.heap.size + 1 + 1 + 1) 210 (.func (.yield l) #[] #[])) := by
    rw [← hW5]
    have := B1.new (((W.alloc (.cells #[.int .i64 k, .int .i64 n, .string s, .slice A0 n0 m0, .slice A1 n1 m1, .int .i64 t] 63)).alloc (.cells #[.int .i64 d] 3)).alloc (.cells #[.func (.func 133) #[] #[]] 212)) 210 (.func (.yield l) #[] #[])
    rw [World.size_alloc, World.size_alloc, World.size_alloc] at this
    exact this.kept (World.grownBy_alloc _ _ none) (by simp)
  have HB8 : Hid (B1 W5 (W.heap.size + 1 + 1 + 1 + 1) 4 (.bool false)) := by
    rw [← hW5]
    have := B1.new ((((W.alloc (.cells #[.int .i64 k, .int .i64 n, .string s, .slice A0 n0 m0, .slice A1 n1 m1, .int .i64 t] 63)).alloc (.cells #[.int .i64 d] 3)).alloc (.cells #[.func (.func 133) #[] #[]] 212)).alloc (.cells #[.func (.yield l) #[] #[]] 210)) 4 (.bool false)
    rw [World.size_alloc, World.size_alloc, World.size_alloc, World.size_alloc] at this
    exact this
  have e0 := HE5.out.c0
  have e1 := HE5.out.c1
  have e2 := HE5.out.c2
  have e3 := HE5.out.c3
  have e4 := HE5.out.c4
  have e5 := HE5.out.c5
  have x5 := HB5.out.c
  have x6 := HB6.out.c
  have x7 := HB7.out.c
  have x8 := HB8.out.c
  have y8 := HB8.out.fr 0
  obtain ⟨fn, tmps, assign, body, hy, hR⟩ := hY (20 - 1) pre (d, ⟨e, _, hre, trivial⟩) W5 HJ5.out
  have HR := Lib.hid hR
  have HIH := Lib.hid ih
  have HRep := Lib.hid hre
  have hmf : ∀ (fn : Fn) (first cap : Array Value) (w : World), (Instr.makeFunc fn first cap).run Tryz.prog w = .ok (.func fn first cap) w := fun _ _ _ _ => rfl
  dsimp only at hy
  clear ih hR hJ0
  refine callsIn_wide (n := 20) |>.1 ?_
  refine callsIn_of_wp_marks Tryz.func155 rfl trivial ?_ rfl
  simp only [Tryz.ntmps155, List.size_toArray, List.length_cons, List.length_nil, Nat.reduceAdd, Nat.reduceSub, Array.replicate_succ, Array.replicate_zero, List.push_toArray, List.append_toArray, List.nil_append, List.cons_append]
  gi_wp2
  have HP5 : Hid (KC P W W5) := Lib.hid (KC.of_grown hg5 (fun _ _ => by simp))
  have HF5 : Hid (KeepsFrom B W W5) := Lib.hid (KeepsFrom.of_grownBy hg5 (fun j e => by cases e))
  have hz5 : W.heap.size + 1 + 1 + 1 + 1 < W5.heap.size := HB8.out.lt
  clear hg5 hW5 x5 x6 x7 x8 y8 e0 e1 e2 e3 e4 e5
  refine HR.out.mono ?_
  rintro r W6 (⟨rfl, hJ6, hk6, hf6⟩ | ⟨rfl, hJx6, hk6, hf6⟩)
  · have HJ6 := Lib.hid hJ6
    have HK6 := Lib.hid hk6
    have HF6 := Lib.hid (HF5.out.trans hf6)
    have e0 := (hk6.2 _ _ _ (hPB _ (by omega)) HE5.out.c0).1
    have e1 := (hk6.2 _ _ _ (hPB _ (by omega)) HE5.out.c1).1
    have e2 := (hk6.2 _ _ _ (hPB _ (by omega)) HE5.out.c2).1
    have e3 := (hk6.2 _ _ _ (hPB _ (by omega)) HE5.out.c3).1
    have e4 := (hk6.2 _ _ _ (hPB _ (by omega)) HE5.out.c4).1
    have e5 := (hk6.2 _ _ _ (hPB _ (by omega)) HE5.out.c5).1
    have x6 := (hk6.2 _ _ _ (hPB _ (by omega)) HB6.out.c).1
    clear hJ6 hk6 hf6
    gi_wp2_with (refine ⟨trivial, ?_⟩; gi_at_call 133; refine ((callsIn_wide).2 (typeParts_any k n s t A0 n0 m0 A1 n1 m1 _)).mono ?_; rintro r w' ⟨rfl, rfl⟩)
    have HP6 : Hid (KC P W W6) := Lib.hid (HP5.out.trans HK6.out)
    have hz6 : W5.heap.size ≤ W6.heap.size := HK6.out.1
    have HCS : Hid (B1 ((W6.alloc (.cells #[.int .i64 k, .int .i64 n, .string s, .slice A0 n0 m0, .slice A1 n1 m1, .int .i64 t] 63)).alloc (.cells #[.slice A0 n0 m0] 51)) (W6.heap.size + 1) 51 (.slice A0 n0 m0)) := Lib.hid (by have := B1.new (W6.alloc (.cells #[.int .i64 k, .int .i64 n, .string s, .slice A0 n0 m0, .slice A1 n1 m1, .int .i64 t] 63)) 51 (.slice A0 n0 m0); rwa [World.size_alloc] at this)
    have HLs := Lib.hid HRep.out.lst
    have hgA : W6.grownBy ((W6.alloc (.cells #[.int .i64 k, .int .i64 n, .string s, .slice A0 n0 m0, .slice A1 n1 m1, .int .i64 t] 63)).alloc (.cells #[.slice A0 n0 m0] 51)) none := grown_trans (World.grownBy_alloc _ _ _) (World.grownBy_alloc _ _ _)
    have hzA : ((W6.alloc (.cells #[.int .i64 k, .int .i64 n, .string s, .slice A0 n0 m0, .slice A1 n1 m1, .int .i64 t] 63)).alloc (.cells #[.slice A0 n0 m0] 51)).heap.size = W6.heap.size + 2 := by rw [World.size_alloc, World.size_alloc]
    refine range_x (n := 20) (by omega) (gf := 173) (lb := #[.pointer (some ⟨W6.heap.size + 1, 0, none⟩)]) rfl (enters_of Tryz.func173 (by kernel_rfl) rfl)
      (encs := fun x : PtT (· ∈ e.l) P w0 => #[.agg x.cs.toArray]) (P := P) (S := fun ys => ys.map PtT.x = e.l) (Sp := fun ps => ps.map PtT.x <+: e.l) ?seq (fun _ => rfl)
      (fun ps W' => (∃ ys, ys.map fxT = nodesTL (d + 1) (ps.map PtT.x) ∧ J (pre ++ (d, ⟨e, _, HRep.out, trivial⟩) :: ys) W') ∧ KC P W5 W' ∧ KeepsFrom B W W' ∧ W6.heap.size + 2 ≤ W'.heap.size)
      (fun c ps W' => c = .ret ∧ (∃ q, q.map fxT <+: (d, e) :: nodesTL (d + 1) (ps.map PtT.x) ∧ Jx (pre ++ q) W') ∧ KC P W W' ∧ KeepsFrom B W W' ∧ W'.cell? ⟨W.heap.size + 1 + 1 + 1 + 1, 0, none⟩ = some (.bool false))
      ?hI ?hIx ?h0 (fun x a' W' => ∃ Bx, W6.heap.size + 2 ≤ Bx ∧ CellsAt W' Bx 0 x.cs ∧ a' = { tmps := #[.agg #[.int .i64 k, .int .i64 n, .string s, .slice A0 n0 m0, .slice A1 n1 m1, .int .i64 t], .int .i64 d, .func (.func 133) #[] #[], .func (.yield l) #[] #[],
        .pointer (some ⟨W.heap.size, 0, none⟩), .pointer (some ⟨W.heap.size + 1, 0, none⟩), .pointer (some ⟨W.heap.size + 1 + 1, 0, none⟩), .pointer (some ⟨W.heap.size + 1 + 1 + 1, 0, none⟩), .pointer (some ⟨W.heap.size + 1 + 1 + 1 + 1, 0, none⟩), .pointer (some ⟨Bx, 0, none⟩),
        .func (.yield l) #[] #[], .int .i64 d, .agg #[.int .i64 k, .int .i64 n, .string s, .slice A0 n0 m0, .slice A1 n1 m1, .int .i64 t], .bool true, .bool false, .func (.func 133) #[] #[], .agg #[.int .i64 k, .int .i64 n, .string s, .slice A0 n0 m0, .slice A1 n1 m1, .int .i64 t],
        .func (.func 173) #[] #[.pointer (some ⟨W6.heap.size + 1, 0, none⟩)], .agg x.cs.toArray, undef, undef, undef, undef, undef, undef, undef], defers := [] })
      ?hAx ?assign ?body ?done ?stop
    case seq =>
      intro l2 J2 Jx2 W8 hg hJ2 hJx2 hY2 h02
      have hc8 : KC P ((W6.alloc (.cells #[.int .i64 k, .int .i64 n, .string s, .slice A0 n0 m0, .slice A1 n1 m1, .int .i64 t] 63)).alloc (.cells #[.slice A0 n0 m0] 51)) W8 := KC.of_grown hg (fun _ _ => by simp)
      refine (partsT_in Fence.wide (20 - 1) trivial rfl (by omega) l2 (W6.heap.size + 1) P e.l w0 J2 Jx2 (fun ps A o h => hJ2.alloc o h) (fun ps x W h => YieldAt.mono (hY2 ps x W h) (fun r W' h => ?_)) W8 A0 n0 m0 ((hc8.2 _ _ _ (hPB _ (by omega)) HCS.out.c).1) (hPB _ (by omega)) ((hw.trans HP6.out).trans ((KC.alloc _ _ _).trans ((KC.alloc _ _ _).trans hc8))) HLs.out.1 (Nat.le_trans HLs.out.2.1 HLs.out.2.2.1) HLs.out.2.2.2 h02).mono ?_
      · rcases h with ⟨h1, h2, h3, _⟩ | ⟨h1, h2, _, _⟩
        · exact .inl ⟨h1, h2, h3⟩
        · exact .inr ⟨h1, h2⟩
      · rintro r W' ⟨h1, (⟨ys, h2, h3, _⟩ | ⟨ps, h2, h3⟩)⟩
        · exact ⟨h1, .inl ⟨ys, h2, h3⟩⟩
        · exact ⟨h1, .inr ⟨ps, h2, h3⟩⟩
    case hI =>
      rintro ps A A' row ⟨⟨ys, hy1, hy2⟩, hc, hf, hz⟩ hg hr
      rw [hzA] at hr
      exact ⟨⟨ys, hy1, hJ _ _ _ _ hy2 hg (fun r e => by have := hr r e; omega)⟩, hc.own hg (fun r e => by have := hr r e; omega), keeps_own hf hg (fun r e => by have := hr r e; omega), Nat.le_trans hz hg.size⟩
    case hIx =>
      rintro c ps A A' row ⟨h1, ⟨q, hq1, hq2⟩, hc, hf, h8⟩ hg hr
      rw [hzA] at hr
      refine ⟨h1, ⟨q, hq1, hJx _ _ _ _ hq2 hg (fun r e => by have := hr r e; omega)⟩, hc.own hg (fun r e => by have := hr r e; omega), keeps_own hf hg (fun r e => by have := hr r e; omega), ?_⟩
      exact (hc.own (A := W) hg (fun r e => by have := hr r e; omega)).1 |> fun _ => by
        have hlt : W.heap.size + 1 + 1 + 1 + 1 < A.heap.size := by
          cases hh : A.heap[W.heap.size + 1 + 1 + 1 + 1]? with
          | none => unfold World.cell? at h8; simp [hh] at h8
          | some x => exact (Array.getElem?_eq_some_iff.1 hh).1
        rw [cell_grown hg hlt (fun e => by have := hr _ e.symm; omega)]; exact h8
    case h0 =>
      exact ⟨⟨[], by simp [nodesTL], hJ.alloc _ (hJ.alloc _ HJ6.out)⟩, HK6.out.trans ((KC.alloc _ _ _).trans (KC.alloc _ _ _)), HF6.out.trans (KeepsFrom.of_grownBy hgA (fun j e => by cases e)), by rw [hzA]; exact Nat.le_refl _⟩
    case hAx =>
      intro x a'
      right
      rintro A l2 o o' ⟨Bx, h1, h2, h3⟩ hl ho
      exact ⟨Bx, h1, CellsAt.keepC (P := fun _ => True) h2 trivial (KC.putObj o' hl ho), h3⟩
    case assign =>
      intro l2 ps x W' K hi hz hK
      obtain ⟨xx, xcs, xrep, xmem⟩ := x
      obtain ⟨xk, xn, xs, xt, B0, p0, r0, B1', p1, r1, rfl⟩ := xrep.shape2
      gi_wp2
      obtain ⟨⟨ys, h1, h2⟩, hc, hf, hz'⟩ := hi
      exact hK _ _ (KeepsFrom.of_grownBy (World.grownBy_alloc W' _ none) (fun j e => by cases e)) (KC.alloc _ _ _) ⟨⟨ys, h1, hJ.alloc _ h2⟩, hc.trans (KC.alloc _ _ _), hf.trans (KeepsFrom.of_grownBy (World.grownBy_alloc W' _ none) (fun j e => by cases e)), by rw [World.size_alloc]; omega⟩ ⟨W'.heap.size, hz', cellsAt_new _ _ _, rfl⟩
    case body =>
      rintro l2 ps x a' W' hl ⟨rr, hrr⟩ ⟨⟨ys, hys, hJy⟩, hkc, hkf, hz⟩ ⟨Bx, hBx, hcx, rfl⟩
      obtain ⟨xx, xcs, xrep, xmem⟩ := x
      obtain ⟨xk, xn, xs, xt, B0, p0, r0, B1', p1, r1, rfl⟩ := xrep.shape2
      have d0 : W'.cell? ⟨Bx, 0, none⟩ = some (.int .i64 xk) := hcx 0 _ rfl
      have d1 : W'.cell? ⟨Bx, 1, none⟩ = some (.int .i64 xn) := hcx 1 _ rfl
      have d2 : W'.cell? ⟨Bx, 2, none⟩ = some (.string xs) := hcx 2 _ rfl
      have d3 : W'.cell? ⟨Bx, 3, none⟩ = some (.slice B0 p0 r0) := hcx 3 _ rfl
      have d4 : W'.cell? ⟨Bx, 4, none⟩ = some (.slice B1' p1 r1) := hcx 4 _ rfl
      have d5 : W'.cell? ⟨Bx, 5, none⟩ = some (.int .i64 xt) := hcx 5 _ rfl
      have x5 := (hkc.2 _ _ _ (hPB _ (by omega)) HB5.out.c).1
      have x6' := (hkc.2 _ _ _ (hPB _ (by omega)) HB6.out.c).1
      have x7 := (hkc.2 _ _ _ (hPB _ (by omega)) HB7.out.c).1
      have hh := hT_part xmem
      obtain ⟨hd1, hd2⟩ := hd
      have hd3 : d ≤ 1000000 := by omega
      have HC := Lib.hid (HIH.out xx xmem (d + 1) (pre ++ (d, ⟨e, _, HRep.out, trivial⟩) :: ys) _ W' xrep (hw.trans (HP5.out.trans hkc)) hJy (by omega) ⟨by omega, by omega⟩)
      have HKC := Lib.hid hkc
      have HKF := Lib.hid hkf
      have HYS := Lib.hid hys
      have h1n : 1 ≤ 20 - 1 - 1 := by omega
      clear hcx hkc hkf hh hJy hys e0 e1 e2 e3 e4 e5 x6
      gi_wp2_with (refine ⟨trivial, ?_⟩; gi_at_call 155; refine (CallsIn.inRound l2 ((callsIn_wide).2 HC.out)).mono ?_; rintro r W3 (⟨rfl, zs, hz1, hJ3, hk3, hf3⟩ | ⟨rfl, q, hq1, hJx3, hk3, hf3⟩); all_goals (have hb8 := (HKC.out.trans hk3).2 _ _ _ (hPB _ (by omega)) HB8.out.c; obtain ⟨x8, y8⟩ := hb8; rw [HB8.out.fr] at y8))
      · refine ⟨keeps_mono hf3 (by rw [hzA]; omega), hk3, ⟨ys ++ zs, ?_, ?_⟩, HKC.out.trans hk3, HKF.out.trans hf3, Nat.le_trans hz hk3.1⟩
        · rw [List.map_append, List.map_append, HYS.out, hz1, List.map_cons, List.map_nil, nodesTL_snoc]
        · rw [List.append_assoc, List.cons_append] at hJ3; exact hJ3
      · have hgs := grown_set W3 ⟨W.heap.size + 1 + 1 + 1 + 1, 0, none⟩ (.bool false)
        have hsm : KC P W3 (W3.setCell ⟨W.heap.size + 1 + 1 + 1 + 1, 0, none⟩ (.bool false)) := KC.same x8
        have hso := KeepsOthers.setCell W3 ⟨W.heap.size + 1 + 1 + 1 + 1, 0, none⟩ (.bool false)
        refine ⟨(keeps_mono hf3 (by rw [hzA]; omega)).trans (hso.from _), hk3.trans hsm, rfl, ⟨(d, ⟨e, _, HRep.out, trivial⟩) :: ys ++ q, ?_, ?_⟩, HP5.out.trans (HKC.out.trans (hk3.trans hsm)), (HKF.out.trans hf3).trans (hso.from _), World.cell?_setCell_same' _ _ _ (by rw [x8]; rfl)⟩
        · rw [List.cons_append, List.map_cons, List.map_append, HYS.out, List.map_append, List.map_cons, List.map_nil, nodesTL_snoc]
          exact List.cons_prefix_cons.2 ⟨rfl, (List.prefix_append_right_inj _).2 hq1⟩
        · rw [List.append_assoc] at hJx3
          exact hJx _ _ _ _ hJx3 hgs (fun r h => by have : W.heap.size + 1 + 1 + 1 + 1 = r := Option.some.inj h; omega)
    case done =>
      rintro D ys W' hD hS ⟨⟨zs, hz1, hJz⟩, hkc, hkf, hz⟩ hKD
      obtain ⟨x8, y8⟩ := hkc.2 _ _ _ (hPB _ (by omega)) HB8.out.c
      rw [HB8.out.fr] at y8
      have HKC := Lib.hid hkc
      have HKF := Lib.hid hkf
      have HJz := Lib.hid hJz
      clear hkc hkf hJz e0 e1 e2 e3 e4 e5 x6
      gi_wp2
      have hgs := grown_set W' ⟨W.heap.size + 1 + 1 + 1 + 1, 0, none⟩ (.bool true)
      have hKD' := (KeepsOthers.setCell W' ⟨W.heap.size + 1 + 1 + 1 + 1, 0, none⟩ (.bool true)).same D _ hKD rfl
      have hgp := grownBy_putObj' (W'.setCell ⟨W.heap.size + 1 + 1 + 1 + 1, 0, none⟩ (.bool true)) D (.deferred none)
      have h8 : (W'.setCell ⟨W.heap.size + 1 + 1 + 1 + 1, 0, none⟩ (.bool true)).cell? ⟨W.heap.size + 1 + 1 + 1 + 1, 0, none⟩ = some (.bool true) := World.cell?_setCell_same' _ _ _ (by rw [x8]; rfl)
      rw [hzA] at hD
      refine ⟨by simp, .inl ⟨_, _, rfl, run_takeDeferred hKD', ?_⟩⟩
      refine ⟨_, res_descT rfl ((KC.putObj (P := fun _ => True) (.deferred none) hKD' rfl).2 _ _ _ trivial h8).1 (.inl rfl), .inl ⟨rfl, (d, ⟨e, _, HRep.out, trivial⟩) :: zs, ?_, ?_, ?_, ?_⟩⟩
      · rw [List.map_cons, hz1, hS, nodesT_parts]; rfl
      · exact hJ _ _ _ _ (hJ _ _ _ _ HJz.out hgs (fun r h => by have : W.heap.size + 1 + 1 + 1 + 1 = r := Option.some.inj h; omega)) hgp (fun r h => by have : D = r := Option.some.inj h; omega)
      · exact ((HP5.out.trans HKC.out).own hgs (fun r h => by have : W.heap.size + 1 + 1 + 1 + 1 = r := Option.some.inj h; omega)).own hgp (fun r h => by have : D = r := Option.some.inj h; omega)
      · exact keeps_own (keeps_own HKF.out hgs (fun r h => by have : W.heap.size + 1 + 1 + 1 + 1 = r := Option.some.inj h; omega)) hgp (fun r h => by have : D = r := Option.some.inj h; omega)
    case stop =>
      rintro D c ps W' hD hSp ⟨rfl, ⟨q, hq1, hq2⟩, hkc, hkf, h8⟩ hKD
      have HX := Lib.hid hq2
      have HKC := Lib.hid hkc
      have HKF := Lib.hid hkf
      clear hkc hkf hq2 e0 e1 e2 e3 e4 e5 x6
      gi_wp2
      have hgp := grownBy_putObj' W' D (.deferred none)
      rw [hzA] at hD
      refine ⟨by simp, .inl ⟨_, _, rfl, run_takeDeferred hKD, ?_⟩⟩
      refine ⟨_, res_descT rfl ((KC.putObj (P := fun _ => True) (.deferred none) hKD rfl).2 _ _ _ trivial h8).1 (.inr rfl), .inr ⟨rfl, q, ?_, ?_, ?_, ?_⟩⟩
      · rw [nodesT_parts]
        exact hq1.trans (List.cons_prefix_cons.2 ⟨rfl, nodesTL_prefix _ hSp⟩)
      · exact hJx _ _ _ _ HX.out hgp (fun r h => by have : D = r := Option.some.inj h; omega)
      · exact HKC.out.own hgp (fun r h => by have : D = r := Option.some.inj h; omega)
      · exact keeps_own HKF.out hgp (fun r h => by have : D = r := Option.some.inj h; omega)
  · -- the round at this node has said 'no more'
    have HX6 := Lib.hid hJx6
    have HK6 := Lib.hid hk6
    have HF6 := Lib.hid (HF5.out.trans hf6)
    have x8 := hk6.2 _ _ _ (hPB _ (by omega)) HB8.out.c
    obtain ⟨x8, y8⟩ := x8
    rw [HB8.out.fr] at y8
    clear hJx6 hk6 hf6
    gi_wp2
    refine ⟨_, res_descT rfl (World.cell?_setCell_same' _ _ _ (by rw [x8]; rfl)) (.inr rfl), .inr ⟨rfl, [(d, ⟨e, _, HRep.out, trivial⟩)], ?_, hJx _ _ _ _ HX6.out (grown_set W6 ⟨W.heap.size + 1 + 1 + 1 + 1, 0, none⟩ _) (fun r h => by have : W.heap.size + 1 + 1 + 1 + 1 = r := Option.some.inj h; omega), (HP5.out.trans HK6.out).own (grown_set W6 ⟨W.heap.size + 1 + 1 + 1 + 1, 0, none⟩ _) (fun r h => by have : W.heap.size + 1 + 1 + 1 + 1 = r := Option.some.inj h; omega), keeps_own HF6.out (grown_set W6 ⟨W.heap.size + 1 + 1 + 1 + 1, 0, none⟩ _) (fun r h => by have : W.heap.size + 1 + 1 + 1 + 1 = r := Option.some.inj h; omega)⟩⟩
    rw [nodesT_parts]
    exact ⟨_, rfl⟩
end Go.Proofs.YtbmicnajedeenaaGreatDoor
/- A type's nodes as an iterator. -/
namespace Go.Proofs.YtbmicnajedeenaaGreatDoor
open Go.RowKit Go.Shelf

attribute [local go_sem] Oper.semAt_some

set_option maxRecDepth 100000 in
set_option maxHeartbeats 400000 in
theorem nodesT_any (k n : Int) (s : ByteArray) (t : Int) (A0 : Option Addr) (n0 c0 : Nat) (A1 : Option Addr) (n1 c1 : Nat) (w : World) :
    Calls Tryz.prog 132 #[.agg #[.int .i64 k, .int .i64 n, .string s, .slice A0 n0 c0, .slice A1 n1 c1, .int .i64 t], .func (.func 133) #[] #[]] w fun e w' =>
      e = .returned (.func (.func 154) #[] #[.pointer (some ⟨w.heap.size, 0, none⟩), .pointer (some ⟨w.heap.size + 1, 0, none⟩)]) ∧
      w' = (w.alloc (.cells #[.int .i64 k, .int .i64 n, .string s, .slice A0 n0 c0, .slice A1 n1 c1, .int .i64 t] 63)).alloc (.cells #[.func (.func 133) #[] #[]] 212) := by
  have hmf : ∀ (fn : Fn) (first cap : Array Value) (w : World), (Instr.makeFunc fn first cap).run Tryz.prog w = .ok (.func fn first cap) w := fun _ _ _ _ => rfl
  go_enter Tryz.func132, Tryz.ntmps132
  go_wp2_with fail
  go_ret
  exact ⟨rfl, rfl⟩

set_option maxRecDepth 100000 in
set_option maxHeartbeats 1000000 in
theorem nodesT_seq (b1 b2 : Nat) (P : Nat → Prop) (w0 : World) (e : Ty) (cs : List Value) (w : World) (hb1 : CellsAt w b1 0 cs) (hb2 : w.cell? ⟨b2, 0, none⟩ = some (.func (.func 133) #[] #[])) (hp1 : P b1) (hp2 : P b2) (hPB : ∀ b, w.heap.size ≤ b → P b)
    (hre : RepT P w0 e cs) (hw : KC P w0 w) (hh : hT e ≤ 900000) :
    SeqX 19 154 #[.pointer (some ⟨b1, 0, none⟩), .pointer (some ⟨b2, 0, none⟩)] (fun x : Int × PtT (fun _ => True) P w0 => #[.int .i64 x.1, .agg x.2.cs.toArray]) P (fun ys => ys.map fxT = nodesT 1 e) (fun ps => ps.map fxT <+: nodesT 1 e) w := by
  intro l J Jx W hg hJ hJx hY h0
  have hc : KC P w W := KC.of_grown hg (fun _ _ => by simp)
  have HD := Lib.hid (descendT_in l W.heap.size P w0 J Jx hJ hJx (fun b hb => hPB b (Nat.le_trans hg.size hb)) (fun m pre x W1 h => yield_wide (hY pre x W1 h)) e 1 [] cs W hre (hw.trans hc) h0 (Nat.le_refl _) ⟨by omega, by omega⟩)
  have hcs := hb1.keepC hp1 hc
  obtain ⟨k, n, s, t, A0, n0, m0, A1, n1, m1, rfl⟩ := hre.shape2
  have d0 : W.cell? ⟨b1, 0, none⟩ = some (.int .i64 k) := hcs 0 _ rfl
  have d1 : W.cell? ⟨b1, 1, none⟩ = some (.int .i64 n) := hcs 1 _ rfl
  have d2 : W.cell? ⟨b1, 2, none⟩ = some (.string s) := hcs 2 _ rfl
  have d3 : W.cell? ⟨b1, 3, none⟩ = some (.slice A0 n0 m0) := hcs 3 _ rfl
  have d4 : W.cell? ⟨b1, 4, none⟩ = some (.slice A1 n1 m1) := hcs 4 _ rfl
  have d5 : W.cell? ⟨b1, 5, none⟩ = some (.int .i64 t) := hcs 5 _ rfl
  have x2 := (hc.2 _ _ _ hp2 hb2).1
  clear hb1 hb2 hcs hre hY hJ hJx h0
  refine callsIn_of_wp Tryz.func154 rfl trivial ?_ rfl
  simp only [Tryz.ntmps154, List.size_toArray, List.length_cons, List.length_nil, Nat.reduceAdd, Nat.reduceSub, Array.replicate_succ, Array.replicate_zero, List.push_toArray, List.append_toArray, List.nil_append, List.cons_append]
  gi_wp2_with (refine ⟨trivial, ?_⟩; gi_at_call 155; refine ((callsIn_wide).2 HD.out).mono ?_; rintro r W3 (⟨rfl, zs, hz1, hJ3, hk3, hf3⟩ | ⟨rfl, q, hq1, hJx3, hk3, hf3⟩))
  · go_end0
    exact ⟨⟨_, rfl⟩, .inl ⟨zs, hz1, hJ3⟩⟩
  · go_end0
    exact ⟨⟨_, rfl⟩, .inr ⟨q, hq1, hJx3⟩⟩
end Go.Proofs.YtbmicnajedeenaaGreatDoor
/- The size and the depth of a type. -/
namespace Go.Proofs.YtbmicnajedeenaaGreatDoor
open Go.RowKit Go.Shelf

attribute [local go_sem] Oper.semAt_some

theorem res_measT {tmps : Array Value} {w : World} {g1 g2 : Nat} {a b : Int} (h2 : tmps.getD 2 undef = .pointer (some ⟨g1, 0, none⟩)) (h3 : tmps.getD 3 undef = .pointer (some ⟨g2, 0, none⟩)) (c1 : w.cell? ⟨g1, 0, none⟩ = some (.int .i64 a)) (c2 : w.cell? ⟨g2, 0, none⟩ = some (.int .i64 b)) :
    (results Tryz.f152 tmps).run Tryz.prog w = .ok (.tuple #[.int .i64 a, .int .i64 b]) w := by
  have h2' : tmps[2]?.getD undef = .pointer (some ⟨g1, 0, none⟩) := by simpa using h2
  have h3' : tmps[3]?.getD undef = .pointer (some ⟨g2, 0, none⟩) := by simpa using h3
  simp [results, Tryz.results152, go_sem, h2', h3', c1, c2]

set_option maxRecDepth 100000 in
set_option maxHeartbeats 4000000 in
theorem measureT_any (b1 b2 : Nat) (e : Ty) (cs : List Value) (w : World) (hb1 : CellsAt w b1 0 cs) (hb2 : w.cell? ⟨b2, 0, none⟩ = some (.func (.func 133) #[] #[])) (hl : b1 < w.heap.size ∧ b2 < w.heap.size)
    (hre : RepT (fun b => b < w.heap.size) w e cs) (hh : hT e ≤ 900000) :
    Calls Tryz.prog 152 #[.func (.func 154) #[] #[.pointer (some ⟨b1, 0, none⟩), .pointer (some ⟨b2, 0, none⟩)]] w fun r w' =>
      r = .returned (.tuple #[.int .i64 (measT 0 0 (nodesT 1 e)).1, .int .i64 (measT 0 0 (nodesT 1 e)).2]) ∧ Below w.heap.size w w' := by
  obtain ⟨W1, hW1⟩ : ∃ W1, (w.alloc (.cells #[.int .i64 0] 3)).alloc (.cells #[.int .i64 0] 3) = W1 := ⟨_, rfl⟩
  have hg1 : ∀ row, w.grownBy W1 row := fun row => by rw [← hW1]; exact grown_trans (World.grownBy_alloc _ _ _) (World.grownBy_alloc _ _ _)
  have hz1 : W1.heap.size = w.heap.size + 2 := by rw [← hW1]; simp
  have hc1 : KC (fun _ => True) w W1 := KC.of_grown (hg1 none) (fun _ _ => by simp)
  have hB1 : Below w.heap.size w W1 := by rw [← hW1]; exact ((Below.refl _ _).alloc (Nat.le_refl _) _).alloc (by simp) _
  have HS1 : Hid (B1 W1 w.heap.size 3 (.int .i64 0)) := by rw [← hW1]; exact (B1.new w 3 _).kept (World.grownBy_alloc _ _ none) (by simp)
  have HS2 : Hid (B1 W1 (w.heap.size + 1) 3 (.int .i64 0)) := by
    rw [← hW1]
    have := B1.new (w.alloc (.cells #[.int .i64 0] 3)) 3 (.int .i64 0)
    rwa [World.size_alloc] at this
  have hseq := nodesT_seq b1 b2 (fun b => b ≠ w.heap.size ∧ b ≠ w.heap.size + 1) W1 e cs W1 (hb1.keepC (P := fun _ => True) trivial hc1) ((hc1.2 _ _ _ trivial hb2).1) ⟨by omega, by omega⟩ ⟨by omega, by omega⟩ (fun b hb => ⟨by omega, by omega⟩) ((hre.keepC (KC.of_grown (hg1 none) (fun _ _ => by simp))).weaken (fun b hb => ⟨by omega, by omega⟩)) (KC.refl _ _) hh
  have HSeq := Lib.hid hseq
  clear hseq hb1 hb2 hre hh hc1
  refine callsIn_wide (n := 20) |>.1 ?_
  refine callsIn_of_wp_marks Tryz.func152 rfl trivial ?_ rfl
  simp only [Tryz.ntmps152, List.size_toArray, List.length_cons, List.length_nil, Nat.reduceAdd, Nat.reduceSub, Array.replicate_succ, Array.replicate_zero, List.push_toArray, List.append_toArray, List.nil_append, List.cons_append]
  gi_wp2
  clear hW1
  refine range_x (n := 20) (by omega) (gf := 154) (lb := #[.pointer (some ⟨b1, 0, none⟩), .pointer (some ⟨b2, 0, none⟩)]) rfl (enters_of Tryz.func154 (by kernel_rfl) rfl) HSeq.out (fun _ => rfl)
    (fun ps W' => ∃ s m : Int, 0 ≤ s ∧ s ≤ 3000 ∧ B1 W' w.heap.size 3 (.int .i64 s) ∧ B1 W' (w.heap.size + 1) 3 (.int .i64 m) ∧ Below w.heap.size w W' ∧ ∀ rest, measT 0 0 (ps.map fxT ++ rest) = measT s m rest)
    (fun c ps W' => c = .exit 0 ∧ ∃ s m : Int, B1 W' w.heap.size 3 (.int .i64 s) ∧ B1 W' (w.heap.size + 1) 3 (.int .i64 m) ∧ Below w.heap.size w W' ∧ ∀ rest, measT 0 0 (ps.map fxT ++ rest) = (s, m))
    ?hI ?hIx ?h0 (fun x a' _ => a' = { tmps := #[.func (.func 154) #[] #[.pointer (some ⟨b1, 0, none⟩), .pointer (some ⟨b2, 0, none⟩)], undef, .pointer (some ⟨w.heap.size, 0, none⟩), .pointer (some ⟨w.heap.size + 1, 0, none⟩), .int .i64 x.1,
      .func (.func 154) #[] #[.pointer (some ⟨b1, 0, none⟩), .pointer (some ⟨b2, 0, none⟩)], .int .i64 x.1, .agg x.2.cs.toArray, undef, undef, undef, undef, undef, undef, undef, undef, undef, undef, undef, undef, undef], defers := [] })
    (fun x a' => .inr fun _ _ _ _ h _ _ => h) ?assign ?body ?done ?stop
  case hI =>
    rintro ps A A' row ⟨s, m, h0, h1, h2, h3, h4, h5⟩ hg hr
    exact ⟨s, m, h0, h1, h2.kept hg (fun e => by have := hr _ e.symm; omega), h3.kept hg (fun e => by have := hr _ e.symm; omega), h4.grown hg h4.size (fun k e => by have := hr _ e; omega), h5⟩
  case hIx =>
    rintro c ps A A' row ⟨hc, s, m, h2, h3, h4, h5⟩ hg hr
    exact ⟨hc, s, m, h2.kept hg (fun e => by have := hr _ e.symm; omega), h3.kept hg (fun e => by have := hr _ e.symm; omega), h4.grown hg h4.size (fun k e => by have := hr _ e; omega), h5⟩
  case h0 => exact ⟨0, 0, by omega, by omega, HS1.out, HS2.out, hB1, fun rest => rfl⟩
  case assign =>
    intro l2 ps x W' K hi hz hK
    gi_wp2
    exact hK _ _ (KeepsFrom.refl _ _) (KC.refl _ _) hi rfl
  case body =>
    rintro l2 ps ⟨d, xp⟩ a' W' hl2 ⟨rr, hrr⟩ ⟨s, m, hs0, hs1, hb1, hb2, hB, hm⟩ rfl
    have c1 := hb1.c
    have f1 := hb1.fr 0
    have c2 := hb2.c
    have f2 := hb2.fr 0
    have HK1 := Lib.hid hb1
    have HK2 := Lib.hid hb2
    have HB := Lib.hid hB
    have HM := Lib.hid hm
    clear hb1 hb2 hB hm
    have g1 := grown_set W' ⟨w.heap.size, 0, none⟩ (.int .i64 (s + 1))
    have g2 := grown_set (W'.setCell ⟨w.heap.size, 0, none⟩ (.int .i64 (s + 1))) ⟨w.heap.size + 1, 0, none⟩ (.int .i64 (max m d))
    have k1 := (KeepsOthers.setCell W' ⟨w.heap.size, 0, none⟩ (.int .i64 (s + 1))).trans (KeepsOthers.setCell _ ⟨w.heap.size + 1, 0, none⟩ (.int .i64 (max m d)))
    have HX1 := Lib.hid (k1.from W1.heap.size)
    have HX2 := Lib.hid (k1.from (w.heap.size + 2))
    have HX3 : Hid (KC (fun b => b ≠ w.heap.size ∧ b ≠ w.heap.size + 1) W' _) := Lib.hid ((KC.of_grown g1 (fun b hb e => hb.1 (Option.some.inj e))).trans (KC.of_grown g2 (fun b hb e => hb.2 (Option.some.inj e))))
    have HX4 := Lib.hid ((HK1.out.set (.int .i64 (s + 1))).kept g2 (by simp))
    have HX5 := Lib.hid ((HK2.out.kept g1 (by simp)).set (.int .i64 (max m d)))
    have HX6 := Lib.hid ((HB.out.grown g1 HB.out.size (fun k e => by have : w.heap.size = k := Option.some.inj e; omega)).grown g2 (by have := HB.out.size; simp [World.setCell]; omega) (fun k e => by have : w.heap.size + 1 = k := Option.some.inj e; omega))
    have HY1 : Hid (3000 < s + 1 ∨ 200 < max m d → ∀ rest, measT 0 0 ((ps ++ [(d, xp)]).map fxT ++ rest) = (s + 1, max m d)) := Lib.hid (fun h rest => by
      rw [List.map_append, List.append_assoc, HM.out]
      show measT s m ((d, xp.x) :: rest) = _
      rw [measT, if_pos h])
    have HY2 : Hid (¬ (3000 < s + 1 ∨ 200 < max m d) → ∀ rest, measT 0 0 ((ps ++ [(d, xp)]).map fxT ++ rest) = measT (s + 1) (max m d) rest) := Lib.hid (fun h rest => by
      rw [List.map_append, List.append_assoc, HM.out]
      show measT s m ((d, xp.x) :: rest) = _
      rw [measT, if_neg h])
    clear g1 g2 k1
    gi_wp2
    · rename_i hq
      exact ⟨HX1.out, HX3.out, rfl, s + 1, max m d, HX4.out, HX5.out, HX6.out, HY1.out hq⟩
    · rename_i hq
      exact ⟨HX1.out, HX3.out, s + 1, max m d, by omega, by omega, HX4.out, HX5.out, HX6.out, HY2.out (by omega)⟩
    · rename_i hq
      exact ⟨HX2.out, HX3.out, rfl, s + 1, HX4.out, max m d, HX5.out, HX6.out, HY1.out (.inl hq)⟩
  case done =>
    rintro D ys W' hD hS ⟨s, m, h0, h1, h2, h3, h4, h5⟩ hKD
    have c1 := h2.c
    have f1 := h2.fr 0
    have c2 := h3.c
    have f2 := h3.fr 0
    have HV : Hid (measT 0 0 (nodesT 1 e) = (s, m)) := Lib.hid (by have := h5 []; rw [List.append_nil, hS] at this; rw [this]; rfl)
    have g1 := grown_set W' ⟨w.heap.size, 0, none⟩ (.int .i64 s)
    have g2 := grown_set (W'.setCell ⟨w.heap.size, 0, none⟩ (.int .i64 s)) ⟨w.heap.size + 1, 0, none⟩ (.int .i64 m)
    have g3 := grown_drewN ((W'.setCell ⟨w.heap.size, 0, none⟩ (.int .i64 s)).setCell ⟨w.heap.size + 1, 0, none⟩ (.int .i64 m)) 1 none
    have hKD' := (((KeepsOthers.setCell W' ⟨w.heap.size, 0, none⟩ (.int .i64 s)).trans (KeepsOthers.setCell _ ⟨w.heap.size + 1, 0, none⟩ (.int .i64 m))).trans (KeepsOthers.drew _)).same D _ hKD rfl
    have q1 := (((h2.set (.int .i64 s)).kept g2 (by simp)).kept g3 (by simp)).c
    have q2 := (((h3.kept g1 (by simp)).set (.int .i64 m)).kept g3 (by simp)).c
    have hsz := h4.size
    have HBz := Lib.hid (((h4.grown g1 h4.size (fun k e => by have : w.heap.size = k := Option.some.inj e; omega)).grown g2 (by simp [World.setCell]; omega) (fun k e => by have : w.heap.size + 1 = k := Option.some.inj e; omega)).grown g3 (by simp [World.setCell]; omega) (fun k e => by cases e))
    have HQ1 := Lib.hid q1
    have HQ2 := Lib.hid q2
    have HKD := Lib.hid hKD'
    clear q1 q2 g1 g2 g3 hKD'
    gi_wp2
    gi_region
    all_goals gi_wp2
    refine ⟨by simp, .inl ⟨_, _, rfl, run_takeDeferred HKD.out, ?_⟩⟩
    refine ⟨_, res_measT rfl rfl ((KC.putObj (P := fun _ => True) (.deferred none) HKD.out rfl).2 _ _ _ trivial HQ1.out).1 ((KC.putObj (P := fun _ => True) (.deferred none) HKD.out rfl).2 _ _ _ trivial HQ2.out).1, by rw [HV.out], ?_⟩
    refine HBz.out.grown (grownBy_putObj' _ D (.deferred none)) HBz.out.size (fun k e => ?_)
    have : D = k := Option.some.inj e
    omega
  case stop =>
    rintro D c ps W' hD hSp ⟨rfl, s, m, h2, h3, h4, h5⟩ hKD
    have c1 := h2.c
    have f1 := h2.fr 0
    have c2 := h3.c
    have f2 := h3.fr 0
    have HV : Hid (measT 0 0 (nodesT 1 e) = (s, m)) := Lib.hid (by obtain ⟨rest, hrest⟩ := hSp; rw [← hrest]; exact h5 rest)
    have g1 := grown_set W' ⟨w.heap.size, 0, none⟩ (.int .i64 s)
    have g2 := grown_set (W'.setCell ⟨w.heap.size, 0, none⟩ (.int .i64 s)) ⟨w.heap.size + 1, 0, none⟩ (.int .i64 m)
    have g3 := grown_drewN ((W'.setCell ⟨w.heap.size, 0, none⟩ (.int .i64 s)).setCell ⟨w.heap.size + 1, 0, none⟩ (.int .i64 m)) 1 none
    have hKD' := (((KeepsOthers.setCell W' ⟨w.heap.size, 0, none⟩ (.int .i64 s)).trans (KeepsOthers.setCell _ ⟨w.heap.size + 1, 0, none⟩ (.int .i64 m))).trans (KeepsOthers.drew _)).same D _ hKD rfl
    have q1 := (((h2.set (.int .i64 s)).kept g2 (by simp)).kept g3 (by simp)).c
    have q2 := (((h3.kept g1 (by simp)).set (.int .i64 m)).kept g3 (by simp)).c
    have hsz := h4.size
    have HBz := Lib.hid (((h4.grown g1 h4.size (fun k e => by have : w.heap.size = k := Option.some.inj e; omega)).grown g2 (by simp [World.setCell]; omega) (fun k e => by have : w.heap.size + 1 = k := Option.some.inj e; omega)).grown g3 (by simp [World.setCell]; omega) (fun k e => by cases e))
    have HQ1 := Lib.hid q1
    have HQ2 := Lib.hid q2
    have HKD := Lib.hid hKD'
    clear q1 q2 g1 g2 g3 hKD'
    gi_wp2
    gi_region
    all_goals gi_wp2
    refine ⟨by simp, .inl ⟨_, _, rfl, run_takeDeferred HKD.out, ?_⟩⟩
    refine ⟨_, res_measT rfl rfl ((KC.putObj (P := fun _ => True) (.deferred none) HKD.out rfl).2 _ _ _ trivial HQ1.out).1 ((KC.putObj (P := fun _ => True) (.deferred none) HKD.out rfl).2 _ _ _ trivial HQ2.out).1, by rw [HV.out], ?_⟩
    refine HBz.out.grown (grownBy_putObj' _ D (.deferred none)) HBz.out.size (fun k e => ?_)
    have : D = k := Option.some.inj e
    omega
end Go.Proofs.YtbmicnajedeenaaGreatDoor
/- The first error of a type's nodes. -/
namespace Go.Proofs.YtbmicnajedeenaaGreatDoor
open Go.RowKit Go.Shelf

attribute [local go_sem] Oper.semAt_some

/-- what a check of a node says of a tree of this kind -/
def ChkSaysT (chk : Ty → Int) : Prop := ∀ (P : Nat → Prop) (x : Ty) (k n : Int) (s : ByteArray) (t : Int) (A0 : Option Addr) (n0 c0 : Nat) (A1 : Option Addr) (n1 c1 : Nat) (w : World), UsesT w → RepT P w x [.int .i64 k, .int .i64 n, .string s, .slice A0 n0 c0, .slice A1 n1 c1, .int .i64 t] →
  Calls Tryz.prog 153 #[.agg #[.int .i64 k, .int .i64 n, .string s, .slice A0 n0 c0, .slice A1 n1 c1, .int .i64 t]] w fun e w' => e = .returned (.int .i64 (chk x)) ∧ Below w.heap.size w w'

theorem res_firstT {tmps : Array Value} {w : World} {g1 : Nat} {a : Int} (h2 : tmps.getD 4 undef = .pointer (some ⟨g1, 0, none⟩)) (c1 : w.cell? ⟨g1, 0, none⟩ = some (.int .i64 a)) :
    (results Tryz.f93 tmps).run Tryz.prog w = .ok (.int .i64 a) w := by
  have h2' : tmps[4]?.getD undef = .pointer (some ⟨g1, 0, none⟩) := by simpa using h2
  simp [results, Tryz.results93, go_sem, h2', c1]

set_option maxRecDepth 100000 in
set_option maxHeartbeats 4000000 in
theorem firstErrorT_any (chk : Ty → Int) (HCk : Hid (ChkSaysT chk)) (b1 b2 : Nat) (e : Ty) (cs : List Value) (w : World) (hb1 : CellsAt w b1 0 cs) (hb2 : w.cell? ⟨b2, 0, none⟩ = some (.func (.func 133) #[] #[])) (hl : b1 < w.heap.size ∧ b2 < w.heap.size)
    (hre : RepT (fun b => b < w.heap.size) w e cs) (hh : hT e ≤ 900000) (hu : UsesT w) :
    Calls Tryz.prog 93 #[.func (.func 154) #[] #[.pointer (some ⟨b1, 0, none⟩), .pointer (some ⟨b2, 0, none⟩)], .func (.func 153) #[] #[]] w fun r w' =>
      r = .returned (.int .i64 (firstT chk (nodesT 1 e))) ∧ Below w.heap.size w w' := by
  obtain ⟨W1, hW1⟩ : ∃ W1, (w.alloc (.cells #[.func (.func 153) #[] #[]] 166)).alloc (.cells #[.int .i64 0] 35) = W1 := ⟨_, rfl⟩
  have hg1 : ∀ row, w.grownBy W1 row := fun row => by rw [← hW1]; exact grown_trans (World.grownBy_alloc _ _ _) (World.grownBy_alloc _ _ _)
  have hz1 : W1.heap.size = w.heap.size + 2 := by rw [← hW1]; simp
  have hc1 : KC (fun _ => True) w W1 := KC.of_grown (hg1 none) (fun _ _ => by simp)
  have hB1 : Below w.heap.size w W1 := by rw [← hW1]; exact ((Below.refl _ _).alloc (Nat.le_refl _) _).alloc (by simp) _
  have HS1 : Hid (B1 W1 w.heap.size 166 (.func (.func 153) #[] #[])) := by rw [← hW1]; exact (B1.new w _ _).kept (World.grownBy_alloc _ _ none) (by simp)
  have HS2 : Hid (B1 W1 (w.heap.size + 1) 35 (.int .i64 0)) := by
    rw [← hW1]
    have := B1.new (w.alloc (.cells #[.func (.func 153) #[] #[]] 166)) 35 (.int .i64 0)
    rwa [World.size_alloc] at this
  have hseq := nodesT_seq b1 b2 (fun b => b ≠ w.heap.size + 1) W1 e cs W1 (hb1.keepC (P := fun _ => True) trivial hc1) ((hc1.2 _ _ _ trivial hb2).1) (by omega) (by omega) (fun b hb => by omega) ((hre.keepC (KC.of_grown (hg1 none) (fun _ _ => by simp))).weaken (fun b hb => by omega)) (KC.refl _ _) hh
  have HSeq := Lib.hid hseq
  have HUse := Lib.hid hu
  clear hu hseq hb1 hb2 hre hh hc1
  refine callsIn_wide (n := 20) |>.1 ?_
  refine callsIn_of_wp_marks Tryz.func93 rfl trivial ?_ rfl
  simp only [Tryz.ntmps93, List.size_toArray, List.length_cons, List.length_nil, Nat.reduceAdd, Nat.reduceSub, Array.replicate_succ, Array.replicate_zero, List.push_toArray, List.append_toArray, List.nil_append, List.cons_append]
  gi_wp2
  clear hW1
  refine range_x (n := 20) (by omega) (gf := 154) (lb := #[.pointer (some ⟨b1, 0, none⟩), .pointer (some ⟨b2, 0, none⟩)]) rfl (enters_of Tryz.func154 (by kernel_rfl) rfl) HSeq.out (fun _ => rfl)
    (fun ps W' => B1 W' (w.heap.size + 1) 35 (.int .i64 0) ∧ KC (fun b => b ≠ w.heap.size + 1) W1 W' ∧ Below w.heap.size w W' ∧ ∀ rest, firstT chk (ps.map fxT ++ rest) = firstT chk rest)
    (fun c ps W' => c = .ret ∧ ∃ v : Int, B1 W' (w.heap.size + 1) 35 (.int .i64 v) ∧ Below w.heap.size w W' ∧ ∀ rest, firstT chk (ps.map fxT ++ rest) = v)
    ?hI ?hIx ?h0 (fun x a' W' => ∃ Bx, W1.heap.size ≤ Bx ∧ CellsAt W' Bx 0 x.2.cs ∧ a' = { tmps := #[.func (.func 154) #[] #[.pointer (some ⟨b1, 0, none⟩), .pointer (some ⟨b2, 0, none⟩)], .func (.func 153) #[] #[], undef, .pointer (some ⟨w.heap.size, 0, none⟩), .pointer (some ⟨w.heap.size + 1, 0, none⟩), undef, .pointer (some ⟨Bx, 0, none⟩), undef,
      .func (.func 154) #[] #[.pointer (some ⟨b1, 0, none⟩), .pointer (some ⟨b2, 0, none⟩)], .int .i64 x.1, .agg x.2.cs.toArray, undef, undef, undef, undef, undef, undef], defers := [] })
    ?hAx ?assign ?body ?done ?stop
  case hI =>
    rintro ps A A' row ⟨h1, h2, h3, h4⟩ hg hr
    exact ⟨h1.kept hg (fun e => by have := hr _ e.symm; omega), h2.own hg (fun r e => hr r e), h3.grown hg h3.size (fun k e => by have := hr _ e; omega), h4⟩
  case hIx =>
    rintro c ps A A' row ⟨hc, v, h1, h3, h4⟩ hg hr
    exact ⟨hc, v, h1.kept hg (fun e => by have := hr _ e.symm; omega), h3.grown hg h3.size (fun k e => by have := hr _ e; omega), h4⟩
  case h0 => exact ⟨HS2.out, KC.refl _ _, hB1, fun rest => rfl⟩
  case hAx =>
    intro x a'
    right
    rintro A l2 o o' ⟨Bx, h1, h2, h3⟩ hl ho
    exact ⟨Bx, h1, CellsAt.keepC (P := fun _ => True) h2 trivial (KC.putObj o' hl ho), h3⟩
  case assign =>
    rintro l2 ps ⟨d, xx, xcs, xrep, xmem⟩ W' K ⟨h1, h2, h3, h4⟩ hz hK
    obtain ⟨xk, xn, xs, xt, A0, p0, r0, A1, p1, r1, rfl⟩ := xrep.shape2
    gi_wp2
    exact hK _ _ (KeepsFrom.of_grownBy (World.grownBy_alloc W' _ none) (fun j e => by cases e)) (KC.alloc _ _ _) ⟨h1.kept (World.grownBy_alloc _ _ none) (by simp), h2.trans (KC.alloc _ _ _), h3.alloc h3.size _, h4⟩ ⟨W'.heap.size, hz, cellsAt_new _ _ _, rfl⟩
  case body =>
    rintro l2 ps ⟨d, xx, xcs, xrep, xmem⟩ a' W' hl2 ⟨rr, hrr⟩ ⟨h1, h2, h3, h4⟩ ⟨Bx, hBx, hcx, rfl⟩
    obtain ⟨xk, xn, xs, xt, A0, p0, r0, A1, p1, r1, rfl⟩ := xrep.shape2
    have d0 : W'.cell? ⟨Bx, 0, none⟩ = some (.int .i64 xk) := hcx 0 _ rfl
    have d1 : W'.cell? ⟨Bx, 1, none⟩ = some (.int .i64 xn) := hcx 1 _ rfl
    have d2 : W'.cell? ⟨Bx, 2, none⟩ = some (.string xs) := hcx 2 _ rfl
    have d3 : W'.cell? ⟨Bx, 3, none⟩ = some (.slice A0 p0 r0) := hcx 3 _ rfl
    have d4 : W'.cell? ⟨Bx, 4, none⟩ = some (.slice A1 p1 r1) := hcx 4 _ rfl
    have d5 : W'.cell? ⟨Bx, 5, none⟩ = some (.int .i64 xt) := hcx 5 _ rfl
    have x3 := (h2.2 _ _ _ (by omega) HS1.out.c).1
    have HC := Lib.hid (HCk.out _ xx xk xn xs xt A0 p0 r0 A1 p1 r1 W' (HUse.out.below h3) (xrep.keepC h2))
    obtain ⟨v, hv⟩ : ∃ v, v = chk xx := ⟨_, rfl⟩
    rw [← hv] at HC
    have HV := Lib.hid hv
    have HB := Lib.hid h1
    have HK := Lib.hid h2
    have HW := Lib.hid h3
    have H4 := Lib.hid h4
    have h1n : 1 ≤ 20 - 1 - 1 := by omega
    clear hcx h1 h2 h3 h4 hv
    by_cases hq : v = 0
    · subst hq
      gi_wp2_with (refine ⟨trivial, ?_⟩; gi_at_call 153; refine (CallsIn.inRound l2 ((callsIn_wide).2 HC.out)).mono ?_; rintro r W3 ⟨rfl, hb⟩)
      have hg := grown_below hb none
      refine ⟨KeepsFrom.of_grownBy hg (fun j e => by cases e), KC.of_grown hg (fun _ _ => by simp), HB.out.kept hg (by simp), HK.out.trans (KC.of_grown hg (fun _ _ => by simp)), HW.out.grown hg HW.out.size (fun j e => by cases e), fun rest => ?_⟩
      rw [List.map_append, List.append_assoc, H4.out]
      show firstT chk ((d, xx) :: rest) = _
      rw [firstT, if_pos HV.out.symm]
    · have hqb : (v == 0) = false := beq_eq_false_iff_ne.2 hq
      gi_wp2_with (refine ⟨trivial, ?_⟩; gi_at_call 153; refine (CallsIn.inRound l2 ((callsIn_wide).2 HC.out)).mono ?_; rintro r W3 ⟨rfl, hb⟩; have HB3 := Lib.hid (HB.out.kept (grown_below hb none) (by simp)); have c4 := HB3.out.c; have f4 := HB3.out.fr 0)
      have hg := grown_below hb none
      have hg2 := grown_set W3 ⟨w.heap.size + 1, 0, none⟩ (.int .i64 v)
      refine ⟨(KeepsFrom.of_grownBy hg (fun j e => by cases e)).trans ((KeepsOthers.setCell W3 ⟨w.heap.size + 1, 0, none⟩ (.int .i64 v)).from _), (KC.of_grown hg (fun _ _ => by simp)).trans (KC.of_grown hg2 (fun b hb e => hb (Option.some.inj e))), rfl, v, HB3.out.set _, (HW.out.grown hg HW.out.size (fun j e => by cases e)).grown hg2 (Nat.le_trans HW.out.size hg.size) (fun k e => by have : w.heap.size + 1 = k := Option.some.inj e; omega), fun rest => ?_⟩
      rw [List.map_append, List.append_assoc, H4.out]
      show firstT chk ((d, xx) :: rest) = _
      rw [firstT, if_neg (by rw [← HV.out]; exact hq)]
      exact HV.out.symm
  case done =>
    rintro D ys W' hD hS ⟨h1, h2, h3, h4⟩ hKD
    have c4 := h1.c
    have f4 := h1.fr 0
    gi_wp2
    have hg := grown_set W' ⟨w.heap.size + 1, 0, none⟩ (.int .i64 0)
    have hKD' := (KeepsOthers.setCell W' ⟨w.heap.size + 1, 0, none⟩ (.int .i64 0)).same D _ hKD rfl
    have hB := h3.grown hg h3.size (fun k e => by have : w.heap.size + 1 = k := Option.some.inj e; omega)
    refine ⟨by simp, .inl ⟨_, _, rfl, run_takeDeferred hKD', ?_⟩⟩
    refine ⟨_, res_firstT rfl ((KC.putObj (P := fun _ => True) (.deferred none) hKD' rfl).2 _ _ _ trivial (h1.set (.int .i64 0)).c).1, ?_, hB.grown (grownBy_putObj' _ D (.deferred none)) hB.size (fun k e => by have : D = k := Option.some.inj e; omega)⟩
    have := h4 []
    rw [List.append_nil, hS] at this
    rw [this]
    rfl
  case stop =>
    rintro D c ps W' hD hSp ⟨rfl, v, h1, h3, h4⟩ hKD
    gi_wp2
    refine ⟨by simp, .inl ⟨_, _, rfl, run_takeDeferred hKD, ?_⟩⟩
    refine ⟨_, res_firstT rfl ((KC.putObj (P := fun _ => True) (.deferred none) hKD rfl).2 _ _ _ trivial h1.c).1, ?_, h3.grown (grownBy_putObj' _ D (.deferred none)) h3.size (fun k e => by have : D = k := Option.some.inj e; omega)⟩
    obtain ⟨rest, hrest⟩ := hSp
    rw [← hrest, h4 rest]
end Go.Proofs.YtbmicnajedeenaaGreatDoor
/- The program's check of a type's node. -/
namespace Go.Proofs.YtbmicnajedeenaaGreatDoor
open Go.RowKit

/-- the first error of a type's node, as the program finds it -/
def pkN (kn : Nat) (n : Int) (s : Txt) (nl : Nat) (ls : List (Txt × Int)) (tl : Int) : Int :=
  if numHas (tyUse kn 0) n = false then 1
  else if nameHasT (tyUse kn 1) s = false then 4
  else if cntIn nl (tyUse kn 5) (tyUse kn 6) = false then 7
  else if kn = 5 then rowErr ls tl
  else if 0 < ls.length ∨ tl ≠ 0 then 1 else 0
theorem pkN_eq (kn : Nat) (hk : kn < 7) (n : Int) (s : Txt) (nl : Nat) (ls : List (Txt × Int)) (tl : Int) : tyNode kn n s nl ls tl = pkN kn n s nl ls tl := by
  unfold tyNode pkN
  have hkk : (decide (0 ≤ (kn : Int)) && decide ((kn : Int) ≤ 6)) = true := by simp; omega
  rw [hkk]
  have h1 : (true = false ∨ (decide (0 ≤ n) && decide (n ≤ 999999999)) = false ∨ (kn : Int) ≠ 0 ∧ n ≠ 0) ↔ numHas (tyUse kn 0) n = false := by
    obtain rfl | rfl | rfl | rfl | rfl | rfl | rfl : kn = 0 ∨ kn = 1 ∨ kn = 2 ∨ kn = 3 ∨ kn = 4 ∨ kn = 5 ∨ kn = 6 := by omega
    · show _ ↔ numHas 2 n = false
      simp [numHas]
    all_goals
      show _ ↔ numHas 0 n = false
      simp [numHas]
      omega
  have h2 : (rCls (tyCls kn) s = false ∨ (kn : Int) = 6 ∧ biT.contains s = true) ↔ nameHasT (tyUse kn 1) s = false := by
    obtain rfl | rfl | rfl | rfl | rfl | rfl | rfl : kn = 0 ∨ kn = 1 ∨ kn = 2 ∨ kn = 3 ∨ kn = 4 ∨ kn = 5 ∨ kn = 6 := by omega
    · show rCls 0 s = false ∨ _ ↔ nameHas 0 s = false
      simp [rCls, nameHas]
    · show rCls 1 s = false ∨ _ ↔ nameHas 1 s = false
      simp [rCls, nameHas]
    · show rCls 0 s = false ∨ _ ↔ nameHas 0 s = false
      simp [rCls, nameHas]
    · show rCls 0 s = false ∨ _ ↔ nameHas 0 s = false
      simp [rCls, nameHas]
    · show rCls 0 s = false ∨ _ ↔ nameHas 0 s = false
      simp [rCls, nameHas]
    · show rCls 0 s = false ∨ _ ↔ nameHas 0 s = false
      simp [rCls, nameHas]
    · show rCls 2 s = false ∨ _ ↔ (isNm 2 s && !biT.contains s) = false
      show isNm 2 s = false ∨ _ ↔ _
      cases isNm 2 s <;> cases biT.contains s <;> simp
  have h3 : (((kn : Int) = 5 ∧ nl ≠ 2) ∨ ((kn : Int) = 6 ∧ 4 < nl) ∨ ((kn : Int) ≠ 5 ∧ (kn : Int) ≠ 6 ∧ 0 < nl)) ↔ cntIn nl (tyUse kn 5) (tyUse kn 6) = false := by
    obtain rfl | rfl | rfl | rfl | rfl | rfl | rfl : kn = 0 ∨ kn = 1 ∨ kn = 2 ∨ kn = 3 ∨ kn = 4 ∨ kn = 5 ∨ kn = 6 := by omega
    · show _ ↔ cntIn nl 0 0 = false
      simp [cntIn]; omega
    · show _ ↔ cntIn nl 0 0 = false
      simp [cntIn]; omega
    · show _ ↔ cntIn nl 0 0 = false
      simp [cntIn]; omega
    · show _ ↔ cntIn nl 0 0 = false
      simp [cntIn]; omega
    · show _ ↔ cntIn nl 0 0 = false
      simp [cntIn]; omega
    · show _ ↔ cntIn nl 2 0 = false
      simp [cntIn]; omega
    · show _ ↔ cntIn nl 0 4 = false
      simp [cntIn]; omega
  simp only [h1, h2, h3]
  by_cases h5 : kn = 5
  · subst h5; simp
  · have h5' : ((kn : Int) ≠ 5) := by omega
    simp [h5, h5']
end Go.Proofs.YtbmicnajedeenaaGreatDoor
/- The walk of the program's check of a type's node. -/
namespace Go.Proofs.YtbmicnajedeenaaGreatDoor
open Go.RowKit

set_option maxRecDepth 100000 in
set_option maxHeartbeats 8000000 in
theorem tyN_says : ChkSaysT tyN := by
  intro P x k n s0 tl Ar0 nr0 cr0 Al0 nl0 cl0 w hU hre
  have HU := Lib.hid hU
  obtain ⟨R, hR⟩ : ∃ R, R = tyN x := ⟨_, rfl⟩
  have HR0 := Lib.hid hR
  rw [← hR]
  clear hR hU
  cases x with
  | mk xk xn s l ls xtl =>
  obtain ⟨Al, cl, Ar, cr, e, hf, hls, hl⟩ := hre
  simp only [tyCells, List.cons.injEq, Value.int.injEq, Value.string.injEq, Value.slice.injEq, and_true, true_and] at e
  obtain ⟨rfl, rfl, rfl, ⟨rfl, rfl, rfl⟩, ⟨rfl, rfl, rfl⟩, rfl⟩ := e
  obtain ⟨nl, hnl⟩ : ∃ q, q = l.length := ⟨_, rfl⟩
  obtain ⟨nr, hnr⟩ : ∃ q, q = ls.length := ⟨_, rfl⟩
  obtain ⟨S, hS⟩ : ∃ q, q = strB s := ⟨_, rfl⟩
  have hl2 : (nl : Int) ≤ 9223372036854775807 := by have := hf.hcl; unfold maxLen at this; omega
  have hr2 : (nr : Int) ≤ 9223372036854775807 := by have := hf.hcr; unfold maxLen at this; omega
  have HRow : Hid (∀ wx, Below w.heap.size w wx → Calls Tryz.prog 172 #[.agg #[.slice Al0 nr cl0, .int .i64 tl]] wx fun e w' => e = .returned (.int .i64 (rowErr ls tl)) ∧ Below wx.heap.size wx w') := Lib.hid (fun wx hb => by rw [hnr]; exact checkRow_any _ _ _ ls tl wx (hls.keep (Same.of_below hb)) (Nat.le_trans hf.hcr.1 hf.hcr.2) (fun x hx => (hf.hls x hx).1))
  have HSl : Hid (s.length ≤ maxLen) := Lib.hid hf.hs
  have HR : Hid (R = tyNode k n s nl ls tl) := Lib.hid (by rw [HR0.out, hnl]; rfl)
  rw [← hnl, ← hnr, ← hS]
  have HNr := Lib.hid hnr
  have HSs := Lib.hid hS
  clear hf hls hl HR0 hnl hnr hS
  obtain ⟨W2, hW2⟩ : ∃ W2, w.alloc (.cells #[.int .i64 k, .int .i64 n, .string S, .slice Ar0 nl cr0, .slice Al0 nr cl0, .int .i64 tl] 63) = W2 := ⟨_, rfl⟩
  have HB0 : Hid (Below w.heap.size w W2) := Lib.hid (by rw [← hW2]; exact (Below.refl _ _).alloc (Nat.le_refl _) _)
  have HE0 : Hid (TyBx W2 w.heap.size (.int .i64 k) (.int .i64 n) (.string S) (.slice Ar0 nl cr0) (.slice Al0 nr cl0) (.int .i64 tl)) := Lib.hid (by rw [← hW2]; exact TyBx.new w _ _ _ _ _ _)
  obtain ⟨a0, a1, a2, a3, a4, a5⟩ := HE0.out.c
  by_cases hk : 0 ≤ k ∧ k < 7
  · obtain ⟨kn, rfl⟩ : ∃ kn : Nat, k = (kn : Int) := ⟨k.toNat, by omega⟩
    have hkn : kn < 7 := by omega
    have i0 : (0 : Int) ≤ (kn : Int) := by omega
    have i1 : (kn : Int) < 7 := by omega
    clear hk
    have HBD := Lib.hid (tyUse_bd kn hkn)
    obtain ⟨B5, hB5⟩ : ∃ b, b = decide (kn = 5) := ⟨_, rfl⟩
    have g5i : ((kn : Int) == 5) = B5 := by
      rw [hB5]
      by_cases h : kn = 5
      · subst h; rfl
      · rw [decide_eq_false h]; exact beq_eq_false_iff_ne.2 (by omega)
    have HRK : Hid (R = if numHas (tyUse kn 0) n = false then 1
      else if nameHasT (tyUse kn 1) s = false then 4
      else if cntIn nl (tyUse kn 5) (tyUse kn 6) = false then 7
      else if B5 = true then rowErr ls tl
      else if 0 < nr ∨ tl ≠ 0 then 1 else 0) := Lib.hid (by
        rw [HR.out, pkN_eq kn hkn, pkN, hB5, HNr.out]
        simp only [decide_eq_true_eq])
    have H1 := Lib.hid (fun wx => numHas_any (tyUse kn 0) n HBD.out.1 wx)
    have H2 := Lib.hid (fun wx => nameHasT_any (tyUse kn 1) s HBD.out.2.1 HSl.out wx)
    have H5 := Lib.hid (fun wx => counts_any nl (tyUse kn 5) (tyUse kn 6) HBD.out.2.2.1 HBD.out.2.2.2 wx)
    obtain ⟨q0, hq0⟩ : ∃ q, q = tyUse kn 0 := ⟨_, rfl⟩
    obtain ⟨q1, hq1⟩ : ∃ q, q = tyUse kn 1 := ⟨_, rfl⟩
    obtain ⟨q2, hq2⟩ : ∃ q, q = tyUse kn 2 := ⟨_, rfl⟩
    obtain ⟨q3, hq3⟩ : ∃ q, q = tyUse kn 3 := ⟨_, rfl⟩
    obtain ⟨q4, hq4⟩ : ∃ q, q = tyUse kn 4 := ⟨_, rfl⟩
    obtain ⟨q5, hq5⟩ : ∃ q, q = tyUse kn 5 := ⟨_, rfl⟩
    obtain ⟨q6, hq6⟩ : ∃ q, q = tyUse kn 6 := ⟨_, rfl⟩
    obtain ⟨q7, hq7⟩ : ∃ q, q = tyUse kn 7 := ⟨_, rfl⟩
    rw [← hq0] at H1
    rw [← hq1, ← HSs.out] at H2
    rw [← hq5, ← hq6] at H5
    rw [← hq0, ← hq1, ← hq5, ← hq6] at HRK
    obtain ⟨r1, hr1⟩ : ∃ r, r = numHas q0 n := ⟨_, rfl⟩
    rw [← hr1] at HRK H1
    obtain ⟨r2, hr2'⟩ : ∃ r, r = nameHasT q1 s := ⟨_, rfl⟩
    rw [← hr2'] at HRK H2
    obtain ⟨r5, hr5⟩ : ∃ r, r = cntIn nl q5 q6 := ⟨_, rfl⟩
    rw [← hr5] at HRK H5
    obtain ⟨r7, hr7⟩ : ∃ r, r = rowErr ls tl := ⟨_, rfl⟩
    rw [← hr7] at HRK HRow
    have HU2 := Lib.hid (HU.out.below HB0.out)
    have hz2 := HE0.out.lt
    have g0 : W2.cell? ⟨2, kn * 8, none⟩ = some (.int .u8 q0) := by rw [hq0]; exact HU2.out.at kn hkn 0 (by omega)
    have g1 : W2.cell? ⟨2, kn * 8 + 1, none⟩ = some (.int .u8 q1) := by rw [hq1]; exact HU2.out.at kn hkn 1 (by omega)
    have g2 : W2.cell? ⟨2, kn * 8 + 2, none⟩ = some (.int .u8 q2) := by rw [hq2]; exact HU2.out.at kn hkn 2 (by omega)
    have g3 : W2.cell? ⟨2, kn * 8 + 3, none⟩ = some (.int .u8 q3) := by rw [hq3]; exact HU2.out.at kn hkn 3 (by omega)
    have g4 : W2.cell? ⟨2, kn * 8 + 4, none⟩ = some (.int .u8 q4) := by rw [hq4]; exact HU2.out.at kn hkn 4 (by omega)
    have g5 : W2.cell? ⟨2, kn * 8 + 5, none⟩ = some (.int .u8 q5) := by rw [hq5]; exact HU2.out.at kn hkn 5 (by omega)
    have g6 : W2.cell? ⟨2, kn * 8 + 6, none⟩ = some (.int .u8 q6) := by rw [hq6]; exact HU2.out.at kn hkn 6 (by omega)
    have g7 : W2.cell? ⟨2, kn * 8 + 7, none⟩ = some (.int .u8 q7) := by rw [hq7]; exact HU2.out.at kn hkn 7 (by omega)
    have hlt1 : 2 < W2.heap.size := by
      obtain ⟨_, _, h⟩ := HU2.out
      exact (Array.getElem?_eq_some_iff.1 h).1
    have HNB := Lib.hid (NB.new W2 [.int .i64 kn, .int .i64 n, .string S, .slice Ar0 nl cr0, .slice Al0 nr cl0, .int .i64 tl, .int .u8 q0, .int .u8 q1, .int .u8 q2, .int .u8 q3, .int .u8 q4, .int .u8 q5, .int .u8 q6, .int .u8 q7] 243)
    have HBX : Hid (Below w.heap.size w (W2.alloc (.cells #[.int .i64 kn, .int .i64 n, .string S, .slice Ar0 nl cr0, .slice Al0 nr cl0, .int .i64 tl, .int .u8 q0, .int .u8 q1, .int .u8 q2, .int .u8 q3, .int .u8 q4, .int .u8 q5, .int .u8 q6, .int .u8 q7] 243)).drew) := Lib.hid (HB0.out.alloc HB0.out.size _).drew
    have i2 : decide ((kn : Int) < 0) = false := by simp
    have i3 : decide (7 ≤ (kn : Int)) = false := by simp; omega
    clear hq0 hq1 hq2 hq3 hq4 hq5 hq6 hq7 hr1 hr2' hr5 hr7 HBD HU hkn HR HNr HSs HSl hB5
    go_enter Tryz.func153, Tryz.ntmps153
    go_wp2_with fail
    clear hW2
    go_region
    obtain ⟨W3, hW3⟩ : ∃ W3, (W2.alloc (.cells #[.int .i64 kn, .int .i64 n, .string S, .slice Ar0 nl cr0, .slice Al0 nr cl0, .int .i64 tl, .int .u8 q0, .int .u8 q1, .int .u8 q2, .int .u8 q3, .int .u8 q4, .int .u8 q5, .int .u8 q6, .int .u8 q7] 243)).drew = W3 := ⟨_, rfl⟩
    rw [hW3] at HNB HBX ⊢
    clear hW3 a0 a1 a2 a3 a4 a5 g0 g1 g2 g3 g4 g5 g6 g7 hlt1 hz2 HE0 HU2
    have f0 : W3.cell? ⟨W2.heap.size, 0, none⟩ = some (.int .i64 kn) := HNB.out.1 0 _ rfl
    have f1 : W3.cell? ⟨W2.heap.size, 1, none⟩ = some (.int .i64 n) := HNB.out.1 1 _ rfl
    have f2 : W3.cell? ⟨W2.heap.size, 2, none⟩ = some (.string S) := HNB.out.1 2 _ rfl
    have f3 : W3.cell? ⟨W2.heap.size, 3, none⟩ = some (.slice Ar0 nl cr0) := HNB.out.1 3 _ rfl
    have f4 : W3.cell? ⟨W2.heap.size, 4, none⟩ = some (.slice Al0 nr cl0) := HNB.out.1 4 _ rfl
    have f5 : W3.cell? ⟨W2.heap.size, 5, none⟩ = some (.int .i64 tl) := HNB.out.1 5 _ rfl
    have f6 : W3.cell? ⟨W2.heap.size, 6, none⟩ = some (.int .u8 q0) := HNB.out.1 6 _ rfl
    have f7 : W3.cell? ⟨W2.heap.size, 7, none⟩ = some (.int .u8 q1) := HNB.out.1 7 _ rfl
    have f8 : W3.cell? ⟨W2.heap.size, 8, none⟩ = some (.int .u8 q2) := HNB.out.1 8 _ rfl
    have f9 : W3.cell? ⟨W2.heap.size, 9, none⟩ = some (.int .u8 q3) := HNB.out.1 9 _ rfl
    have f10 : W3.cell? ⟨W2.heap.size, 10, none⟩ = some (.int .u8 q4) := HNB.out.1 10 _ rfl
    have f11 : W3.cell? ⟨W2.heap.size, 11, none⟩ = some (.int .u8 q5) := HNB.out.1 11 _ rfl
    have f12 : W3.cell? ⟨W2.heap.size, 12, none⟩ = some (.int .u8 q6) := HNB.out.1 12 _ rfl
    have f13 : W3.cell? ⟨W2.heap.size, 13, none⟩ = some (.int .u8 q7) := HNB.out.1 13 _ rfl
    cases r1
    · have HR2 : Hid (R = 1) := Lib.hid (by rw [HRK.out, if_pos rfl])
      go_wp2_with fail
      refine (H1.out _).mono ?_
      rintro e w' ⟨rfl, rfl⟩
      go_wp2_with fail
      go_ret
      exact ⟨by rw [HR2.out]; rfl, HBX.out⟩
    rw [if_neg (by simp)] at HRK
    go_wp2_with fail
    refine (H1.out _).mono ?_
    rintro e w' ⟨rfl, rfl⟩
    go_wp2_with fail
    refine (H2.out _).mono ?_
    rintro e W4 ⟨rfl, hb⟩
    have HB4 := Lib.hid (HBX.out.trans (hb.mono HBX.out.size))
    have HN4 := Lib.hid (HNB.out.below hb)
    clear hb f0 f1 f2 f3 f4 f5 f6 f7 f8 f9 f10 f11 f12 f13
    have f0 : W4.cell? ⟨W2.heap.size, 0, none⟩ = some (.int .i64 kn) := HN4.out.1 0 _ rfl
    have f1 : W4.cell? ⟨W2.heap.size, 1, none⟩ = some (.int .i64 n) := HN4.out.1 1 _ rfl
    have f2 : W4.cell? ⟨W2.heap.size, 2, none⟩ = some (.string S) := HN4.out.1 2 _ rfl
    have f3 : W4.cell? ⟨W2.heap.size, 3, none⟩ = some (.slice Ar0 nl cr0) := HN4.out.1 3 _ rfl
    have f4 : W4.cell? ⟨W2.heap.size, 4, none⟩ = some (.slice Al0 nr cl0) := HN4.out.1 4 _ rfl
    have f5 : W4.cell? ⟨W2.heap.size, 5, none⟩ = some (.int .i64 tl) := HN4.out.1 5 _ rfl
    have f6 : W4.cell? ⟨W2.heap.size, 6, none⟩ = some (.int .u8 q0) := HN4.out.1 6 _ rfl
    have f7 : W4.cell? ⟨W2.heap.size, 7, none⟩ = some (.int .u8 q1) := HN4.out.1 7 _ rfl
    have f8 : W4.cell? ⟨W2.heap.size, 8, none⟩ = some (.int .u8 q2) := HN4.out.1 8 _ rfl
    have f9 : W4.cell? ⟨W2.heap.size, 9, none⟩ = some (.int .u8 q3) := HN4.out.1 9 _ rfl
    have f10 : W4.cell? ⟨W2.heap.size, 10, none⟩ = some (.int .u8 q4) := HN4.out.1 10 _ rfl
    have f11 : W4.cell? ⟨W2.heap.size, 11, none⟩ = some (.int .u8 q5) := HN4.out.1 11 _ rfl
    have f12 : W4.cell? ⟨W2.heap.size, 12, none⟩ = some (.int .u8 q6) := HN4.out.1 12 _ rfl
    have f13 : W4.cell? ⟨W2.heap.size, 13, none⟩ = some (.int .u8 q7) := HN4.out.1 13 _ rfl
    cases r2
    · have HR2 : Hid (R = 4) := Lib.hid (by rw [HRK.out, if_pos rfl])
      go_wp2_with fail
      go_ret
      exact ⟨by rw [HR2.out]; rfl, HB4.out⟩
    rw [if_neg (by simp)] at HRK
    go_wp2_with fail
    refine (H5.out _).mono ?_
    rintro e w' ⟨rfl, rfl⟩
    cases r5
    · have HR2 : Hid (R = 7) := Lib.hid (by rw [HRK.out, if_pos rfl])
      go_wp2_with fail
      go_ret
      exact ⟨by rw [HR2.out]; rfl, HB4.out⟩
    rw [if_neg (by simp)] at HRK
    cases B5
    · rw [if_neg (by simp)] at HRK
      by_cases hn : 0 < nr
      · have HR2 : Hid (R = 1) := Lib.hid (by rw [HRK.out, if_pos (.inl hn)])
        have k1 : ¬ nr = 0 := by omega
        clear hn
        go_wp2_with fail
        go_ret
        exact ⟨by rw [HR2.out]; rfl, HB4.out⟩
      · obtain rfl : nr = 0 := by omega
        by_cases ht : tl = 0
        · have HR2 : Hid (R = 0) := Lib.hid (by rw [HRK.out, if_neg (by simp [ht, hn])])
          subst ht
          clear hn
          go_wp2_with fail
          go_ret
          exact ⟨by rw [HR2.out]; rfl, HB4.out⟩
        · have HR2 : Hid (R = 1) := Lib.hid (by rw [HRK.out, if_pos (.inr ht)])
          have k2 : (tl != 0) = true := by simpa using ht
          clear hn ht
          go_wp2_with fail
          go_ret
          exact ⟨by rw [HR2.out]; rfl, HB4.out⟩
    · rw [if_pos rfl] at HRK
      go_wp2_with fail
      refine (HRow.out _ HB4.out).mono ?_
      rintro e W8 ⟨rfl, hb⟩
      have HB8 := Lib.hid (HB4.out.trans (hb.mono HB4.out.size))
      clear hb
      go_wp2_with fail
      go_ret
      exact ⟨by rw [HRK.out]; rfl, HB8.out⟩
  · have HR2 : Hid (R = 1) := Lib.hid (by
      have hbad : (decide (0 ≤ k) && decide (k ≤ 6)) = false := by
        rw [Bool.and_eq_false_iff, decide_eq_false_iff_not, decide_eq_false_iff_not]
        omega
      rw [HR.out, tyNode, if_pos (.inl hbad)])
    clear HR HRow HSl HNr HSs HU
    by_cases h0 : k < 0
    · go_enter Tryz.func153, Tryz.ntmps153
      go_wp2_with fail
      go_ret
      exact ⟨by rw [HR2.out]; rfl, HB0.out⟩
    · have g1 : decide (k < 0) = false := by simpa using h0
      have g2 : decide (7 ≤ k) = true := by simp; omega
      clear hk h0
      go_enter Tryz.func153, Tryz.ntmps153
      go_wp2_with fail
      go_ret
      exact ⟨by rw [HR2.out]; rfl, HB0.out⟩
end Go.Proofs.YtbmicnajedeenaaGreatDoor
/- The program's CheckType. -/
namespace Go.Proofs.YtbmicnajedeenaaGreatDoor
open Go.RowKit Go.Shelf

attribute [local go_sem] Oper.semAt_some

theorem res_ckT {tmps : Array Value} {w : World} {g1 : Nat} {a : Int} (h2 : tmps.getD 2 undef = .pointer (some ⟨g1, 0, none⟩)) (c1 : w.cell? ⟨g1, 0, none⟩ = some (.int .i64 a)) :
    (results Tryz.f131 tmps).run Tryz.prog w = .ok (.int .i64 a) w := by
  have h2' : tmps[2]?.getD undef = .pointer (some ⟨g1, 0, none⟩) := by simpa using h2
  simp [results, Tryz.results131, go_sem, h2', c1]
theorem manyT_snoc (a : List (Int × Ty)) (x : Int × Ty) (h : manyT a = false) : manyT (a ++ [x]) = decide (24 < x.2.ls.length) := by
  obtain ⟨d, y⟩ := x
  rw [manyT_append, h, manyT, manyT, Bool.false_or, Bool.or_false]
theorem manyT_true (a b : List (Int × Ty)) (h : manyT a = true) : manyT (a ++ b) = true := by rw [manyT_append, h, Bool.true_or]
theorem RepT.labs {P : Nat → Prop} {w : World} {e : Ty} {v0 v1 v2 v3 v5 : Value} {A : Option Addr} {n c : Nat} (h : RepT P w e [v0, v1, v2, v3, .slice A n c, v5]) : n = e.ls.length ∧ n ≤ maxLen := by
  cases e
  obtain ⟨Al, cl, Ar, cr, e, hf, _, hl⟩ := h
  simp only [tyCells, List.cons.injEq, Value.slice.injEq, and_true] at e
  obtain ⟨_, _, _, _, ⟨rfl, rfl, rfl⟩, _⟩ := e
  exact ⟨rfl, Nat.le_trans hf.hcr.1 hf.hcr.2⟩

set_option maxRecDepth 100000 in
set_option maxHeartbeats 8000000 in
theorem checkType_any (P : Nat → Prop) (e : Ty) (k n : Int) (s : ByteArray) (t : Int) (A0 : Option Addr) (n0 c0 : Nat) (A1 : Option Addr) (n1 c1 : Nat) (w : World)
    (hre : RepT P w e [.int .i64 k, .int .i64 n, .string s, .slice A0 n0 c0, .slice A1 n1 c1, .int .i64 t]) (hh : hT e ≤ 900000) (hu : UsesT w) :
    Calls Tryz.prog 131 #[.agg #[.int .i64 k, .int .i64 n, .string s, .slice A0 n0 c0, .slice A1 n1 c1, .int .i64 t]] w fun r w' => r = .returned (.int .i64 (pkT e)) ∧ Below w.heap.size w w' := by
  have HN := Lib.hid (fun w => nodesT_any k n s t A0 n0 c0 A1 n1 c1 w)
  have HG : Hid (∀ w1 : World, w1.grownBy ((w1.alloc (.cells #[.int .i64 k, .int .i64 n, .string s, .slice A0 n0 c0, .slice A1 n1 c1, .int .i64 t] 63)).alloc (.cells #[.func (.func 133) #[] #[]] 212)) none) := Lib.hid (fun w1 => grown_trans (World.grownBy_alloc _ _ _) (World.grownBy_alloc _ _ _))
  have HC2 : Hid (∀ w1 : World, ((w1.alloc (.cells #[.int .i64 k, .int .i64 n, .string s, .slice A0 n0 c0, .slice A1 n1 c1, .int .i64 t] 63)).alloc (.cells #[.func (.func 133) #[] #[]] 212)).cell? ⟨w1.heap.size + 1, 0, none⟩ = some (.func (.func 133) #[] #[])) := Lib.hid (fun w1 => by
    have := (B1.new (w1.alloc (.cells #[.int .i64 k, .int .i64 n, .string s, .slice A0 n0 c0, .slice A1 n1 c1, .int .i64 t] 63)) 212 (.func (.func 133) #[] #[])).c
    rwa [World.size_alloc] at this)
  have HC1 : Hid (∀ w1 : World, CellsAt ((w1.alloc (.cells #[.int .i64 k, .int .i64 n, .string s, .slice A0 n0 c0, .slice A1 n1 c1, .int .i64 t] 63)).alloc (.cells #[.func (.func 133) #[] #[]] 212)) w1.heap.size 0 [.int .i64 k, .int .i64 n, .string s, .slice A0 n0 c0, .slice A1 n1 c1, .int .i64 t]) := Lib.hid (fun w1 => (cellsAt_new w1 _ _).keepC (P := fun _ => True) trivial (KC.alloc _ _ _))
  have HM : Hid (∀ w1, Below w.heap.size w w1 → Calls Tryz.prog 152 #[.func (.func 154) #[] #[.pointer (some ⟨w1.heap.size, 0, none⟩), .pointer (some ⟨w1.heap.size + 1, 0, none⟩)]]
      ((w1.alloc (.cells #[.int .i64 k, .int .i64 n, .string s, .slice A0 n0 c0, .slice A1 n1 c1, .int .i64 t] 63)).alloc (.cells #[.func (.func 133) #[] #[]] 212)) fun r w' =>
      r = .returned (.tuple #[.int .i64 (measT 0 0 (nodesT 1 e)).1, .int .i64 (measT 0 0 (nodesT 1 e)).2]) ∧ Below w1.heap.size w1 w') := Lib.hid (fun w1 hb => by
    refine (measureT_any w1.heap.size (w1.heap.size + 1) e _ _ (HC1.out w1) (HC2.out w1) ⟨by simp <;> omega, by simp <;> omega⟩ (((hre.keep (Same.of_below hb)).keep (Same.of_grown (HG.out w1) (fun _ _ => by simp))).tight.weaken (fun x hx => hx)) hh).mono ?_
    rintro r w' ⟨h1, h2⟩
    exact ⟨h1, ((Below.refl w1.heap.size w1).grown (HG.out w1) (Nat.le_refl _) (fun j e => by cases e)).trans (h2.mono (HG.out w1).size)⟩)
  have HF : Hid (∀ w1, Below w.heap.size w w1 → Calls Tryz.prog 93 #[.func (.func 154) #[] #[.pointer (some ⟨w1.heap.size, 0, none⟩), .pointer (some ⟨w1.heap.size + 1, 0, none⟩)], .func (.func 153) #[] #[]]
      ((w1.alloc (.cells #[.int .i64 k, .int .i64 n, .string s, .slice A0 n0 c0, .slice A1 n1 c1, .int .i64 t] 63)).alloc (.cells #[.func (.func 133) #[] #[]] 212)) fun r w' =>
      r = .returned (.int .i64 (firstT tyN (nodesT 1 e))) ∧ Below w1.heap.size w1 w') := Lib.hid (fun w1 hb => by
    refine (firstErrorT_any tyN (Lib.hid tyN_says) w1.heap.size (w1.heap.size + 1) e _ _ (HC1.out w1) (HC2.out w1) ⟨by simp <;> omega, by simp <;> omega⟩ (((hre.keep (Same.of_below hb)).keep (Same.of_grown (HG.out w1) (fun _ _ => by simp))).tight.weaken (fun x hx => hx)) hh ((hu.below hb).grown (HG.out w1))).mono ?_
    rintro r w' ⟨h1, h2⟩
    exact ⟨h1, ((Below.refl w1.heap.size w1).grown (HG.out w1) (Nat.le_refl _) (fun j e => by cases e)).trans (h2.mono (HG.out w1).size)⟩)
  have HQ : Hid (∀ w1, Below w.heap.size w w1 → ∀ g, g < w1.heap.size → w.heap.size ≤ g → SeqX 19 154 #[.pointer (some ⟨w1.heap.size, 0, none⟩), .pointer (some ⟨w1.heap.size + 1, 0, none⟩)] (fun x : Int × PtT (fun _ => True) (fun b => b ≠ g) w => #[.int .i64 x.1, .agg x.2.cs.toArray]) (fun b => b ≠ g) (fun ys => ys.map fxT = nodesT 1 e) (fun ps => ps.map fxT <+: nodesT 1 e)
      ((w1.alloc (.cells #[.int .i64 k, .int .i64 n, .string s, .slice A0 n0 c0, .slice A1 n1 c1, .int .i64 t] 63)).alloc (.cells #[.func (.func 133) #[] #[]] 212))) := Lib.hid (fun w1 hb g hg hg2 =>
    nodesT_seq w1.heap.size (w1.heap.size + 1) (fun b => b ≠ g) w e _ _ (HC1.out w1) (HC2.out w1) (by omega) (by omega) (fun b hb => by simp only [World.size_alloc] at hb; omega) (hre.tight.weaken (fun b hb => by omega))
      ((KC.of_grown (grown_below hb none) (fun _ _ => by simp)).trans (KC.of_grown (HG.out w1) (fun _ _ => by simp))) hh)
  obtain ⟨S, hS⟩ : ∃ S, S = (measT 0 0 (nodesT 1 e)).1 := ⟨_, rfl⟩
  obtain ⟨D, hD⟩ : ∃ D, D = (measT 0 0 (nodesT 1 e)).2 := ⟨_, rfl⟩
  obtain ⟨V, hV⟩ : ∃ V, V = firstT tyN (nodesT 1 e) := ⟨_, rfl⟩
  obtain ⟨R, hR⟩ : ∃ V, V = pkT e := ⟨_, rfl⟩
  have HR : Hid (R = if 3000 < S ∨ 200 < D then 3 else if manyT (nodesT 1 e) = true then 3 else V) := Lib.hid (by rw [hR, pkT, ← hS, ← hD, ← hV])
  rw [← hS, ← hD] at HM
  rw [← hV] at HF
  rw [← hR]
  obtain ⟨W1, hW1⟩ : ∃ W1, (w.alloc (.cells #[.int .i64 k, .int .i64 n, .string s, .slice A0 n0 c0, .slice A1 n1 c1, .int .i64 t] 63)).alloc (.cells #[.int .i64 0] 35) = W1 := ⟨_, rfl⟩
  have HB1 : Hid (Below w.heap.size w W1) := Lib.hid (by rw [← hW1]; exact ((Below.refl _ _).alloc (Nat.le_refl _) _).alloc (by simp) _)
  have HE1 : Hid (TyBx W1 w.heap.size (.int .i64 k) (.int .i64 n) (.string s) (.slice A0 n0 c0) (.slice A1 n1 c1) (.int .i64 t)) := Lib.hid (by rw [← hW1]; exact (TyBx.new w _ _ _ _ _ _).kept (World.grownBy_alloc _ _ none) (by simp))
  have HV1 : Hid (B1 W1 (w.heap.size + 1) 35 (.int .i64 0)) := by
    rw [← hW1]
    have := B1.new (w.alloc (.cells #[.int .i64 k, .int .i64 n, .string s, .slice A0 n0 c0, .slice A1 n1 c1, .int .i64 t] 63)) 35 (.int .i64 0)
    rwa [World.size_alloc] at this
  have a0 := HE1.out.c0
  have a1 := HE1.out.c1
  have a2 := HE1.out.c2
  have a3 := HE1.out.c3
  have a4 := HE1.out.c4
  have a5 := HE1.out.c5
  clear hS hD hV hR hre hu hh HC1 HC2
  refine callsIn_wide (n := 20) |>.1 ?_
  refine callsIn_of_wp_marks Tryz.func131 rfl trivial ?_ rfl
  simp only [Tryz.ntmps131, List.size_toArray, List.length_cons, List.length_nil, Nat.reduceAdd, Nat.reduceSub, Array.replicate_succ, Array.replicate_zero, List.push_toArray, List.append_toArray, List.nil_append, List.cons_append]
  by_cases hbig : 3000 < S ∨ 200 < D
  · have HRf : Hid (R = 3) := Lib.hid (by rw [HR.out, if_pos hbig])
    by_cases hs1 : 3000 < S
    · have g1 : decide (3000 < S) = true := decide_eq_true hs1
      clear hbig hs1
      gi_wp2_with (first | (refine ⟨trivial, ?_⟩; gi_at_call 132; refine ((callsIn_wide).2 (HN.out _)).mono ?_; rintro r w1 ⟨rfl, rfl⟩) | (refine ⟨trivial, ?_⟩; gi_at_call 152; refine ((callsIn_wide).2 (HM.out _ HB1.out)).mono ?_; rintro r w2 ⟨rfl, hb⟩; have HV2 := Lib.hid (HV1.out.kept (grown_below hb none) (by simp)); have HE2 := Lib.hid (HE1.out.kept (grown_below hb none) (by simp)); have HB2 := Lib.hid (HB1.out.trans (hb.mono HB1.out.size)); have c4 := HV2.out.c; have f4 := HV2.out.fr 0; clear hb a0 a1 a2 a3 a4 a5))
      have hg2 := grown_set w2 ⟨w.heap.size + 1, 0, none⟩ (.int .i64 3)
      exact ⟨_, res_ckT rfl (HV2.out.set (.int .i64 3)).c, by rw [HRf.out], HB2.out.grown hg2 HB2.out.size (fun k e => by have : w.heap.size + 1 = k := Option.some.inj e; omega)⟩
    · have g1 : decide (3000 < S) = false := decide_eq_false hs1
      have g2 : decide (200 < D) = true := decide_eq_true (hbig.resolve_left hs1)
      clear hbig hs1
      gi_wp2_with (first | (refine ⟨trivial, ?_⟩; gi_at_call 132; refine ((callsIn_wide).2 (HN.out _)).mono ?_; rintro r w1 ⟨rfl, rfl⟩) | (refine ⟨trivial, ?_⟩; gi_at_call 152; refine ((callsIn_wide).2 (HM.out _ HB1.out)).mono ?_; rintro r w2 ⟨rfl, hb⟩; have HV2 := Lib.hid (HV1.out.kept (grown_below hb none) (by simp)); have HE2 := Lib.hid (HE1.out.kept (grown_below hb none) (by simp)); have HB2 := Lib.hid (HB1.out.trans (hb.mono HB1.out.size)); have c4 := HV2.out.c; have f4 := HV2.out.fr 0; clear hb a0 a1 a2 a3 a4 a5))
      have hg2 := grown_set w2 ⟨w.heap.size + 1, 0, none⟩ (.int .i64 3)
      exact ⟨_, res_ckT rfl (HV2.out.set (.int .i64 3)).c, by rw [HRf.out], HB2.out.grown hg2 HB2.out.size (fun k e => by have : w.heap.size + 1 = k := Option.some.inj e; omega)⟩
  · have g1 : decide (3000 < S) = false := decide_eq_false (fun h => hbig (.inl h))
    have g2 : decide (200 < D) = false := decide_eq_false (fun h => hbig (.inr h))
    have HR2 : Hid (R = if manyT (nodesT 1 e) = true then 3 else V) := Lib.hid (by rw [HR.out, if_neg hbig])
    clear hbig
    gi_wp2_with (first | (refine ⟨trivial, ?_⟩; gi_at_call 132; refine ((callsIn_wide).2 (HN.out _)).mono ?_; rintro r w1 ⟨rfl, rfl⟩) | (refine ⟨trivial, ?_⟩; gi_at_call 152; refine ((callsIn_wide).2 (HM.out _ HB1.out)).mono ?_; rintro r w2 ⟨rfl, hb⟩; have HV2 := Lib.hid (HV1.out.kept (grown_below hb none) (by simp)); have HE2 := Lib.hid (HE1.out.kept (grown_below hb none) (by simp)); have HB21 := Lib.hid hb; have HB2 := Lib.hid (HB1.out.trans (hb.mono HB1.out.size)); have c4 := HV2.out.c; have f4 := HV2.out.fr 0; clear hb a0 a1 a2 a3 a4 a5; have a0 := HE2.out.c0; have a1 := HE2.out.c1; have a2 := HE2.out.c2; have a3 := HE2.out.c3; have a4 := HE2.out.c4; have a5 := HE2.out.c5))
    have hzw : w.heap.size + 1 < W1.heap.size := HV1.out.lt
    have hzw2 : W1.heap.size ≤ w2.heap.size := HB21.out.size
    obtain ⟨W3, hW3⟩ : ∃ W3, (w2.alloc (.cells #[.int .i64 k, .int .i64 n, .string s, .slice A0 n0 c0, .slice A1 n1 c1, .int .i64 t] 63)).alloc (.cells #[.func (.func 133) #[] #[]] 212) = W3 := ⟨_, rfl⟩
    have hg3 : w2.grownBy W3 none := by rw [← hW3]; exact HG.out w2
    have HSeq : Hid (SeqX 19 154 #[.pointer (some ⟨w2.heap.size, 0, none⟩), .pointer (some ⟨w2.heap.size + 1, 0, none⟩)] (fun x : Int × PtT (fun _ => True) (fun b => b ≠ w.heap.size + 1) w => #[.int .i64 x.1, .agg x.2.cs.toArray]) (fun b => b ≠ w.heap.size + 1) (fun ys => ys.map fxT = nodesT 1 e) (fun ps => ps.map fxT <+: nodesT 1 e) W3) := Lib.hid (by rw [← hW3]; exact HQ.out w2 HB2.out (w.heap.size + 1) (by omega) (by omega))
    have HE3 := Lib.hid (HE2.out.kept hg3 (by simp))
    have HV3 := Lib.hid (HV2.out.kept hg3 (by simp))
    have HB3 : Hid (Below w.heap.size w W3) := Lib.hid (HB2.out.grown hg3 HB2.out.size (fun j e => by cases e))
    have hz3 : w2.heap.size ≤ W3.heap.size := hg3.size
    rw [hW3]
    clear hW3 HQ HM hg3 HB21
    refine range_x (n := 20) (by omega) (gf := 154) (lb := #[.pointer (some ⟨w2.heap.size, 0, none⟩), .pointer (some ⟨w2.heap.size + 1, 0, none⟩)]) rfl (enters_of Tryz.func154 (by kernel_rfl) rfl) HSeq.out (fun _ => rfl)
      (fun ps W' => B1 W' (w.heap.size + 1) 35 (.int .i64 0) ∧ KC (fun b => b ≠ w.heap.size + 1) W3 W' ∧ Below w.heap.size w W' ∧ manyT (ps.map fxT) = false)
      (fun c ps W' => c = .ret ∧ B1 W' (w.heap.size + 1) 35 (.int .i64 3) ∧ Below w.heap.size w W' ∧ manyT (ps.map fxT) = true)
      ?hI ?hIx ?h0 (fun x a' W' => ∃ Bx, W3.heap.size ≤ Bx ∧ CellsAt W' Bx 0 x.2.cs ∧ a' = { tmps := #[.agg #[.int .i64 k, .int .i64 n, .string s, .slice A0 n0 c0, .slice A1 n1 c1, .int .i64 t], .pointer (some ⟨w.heap.size, 0, none⟩), .pointer (some ⟨w.heap.size + 1, 0, none⟩), .int .i64 S, .int .i64 D, undef, .pointer (some ⟨Bx, 0, none⟩), .tuple #[.int .i64 S, .int .i64 D], .agg #[.int .i64 k, .int .i64 n, .string s, .slice A0 n0 c0, .slice A1 n1 c1, .int .i64 t], .func (.func 154) #[] #[.pointer (some ⟨W1.heap.size, 0, none⟩), .pointer (some ⟨W1.heap.size + 1, 0, none⟩)], .tuple #[.int .i64 S, .int .i64 D], .int .i64 S, .int .i64 D, .int .i64 S, .bool false, .bool false, .int .i64 D, .bool false, .bool false, .agg #[.int .i64 k, .int .i64 n, .string s, .slice A0 n0 c0, .slice A1 n1 c1, .int .i64 t], .func (.func 154) #[] #[.pointer (some ⟨w2.heap.size, 0, none⟩), .pointer (some ⟨w2.heap.size + 1, 0, none⟩)], .int .i64 x.1, .agg x.2.cs.toArray, undef, undef, undef, undef, undef, undef, undef, undef], defers := [] })
      ?hAx ?assign ?body ?done ?stop
    case hI =>
      rintro ps A A' row ⟨h1, h2, h3, h4⟩ hg hr
      exact ⟨h1.kept hg (fun e => by have := hr _ e.symm; omega), h2.own hg (fun r e => hr r e), h3.grown hg h3.size (fun k e => by have := hr _ e; omega), h4⟩
    case hIx =>
      rintro c ps A A' row ⟨hc, h1, h3, h4⟩ hg hr
      exact ⟨hc, h1.kept hg (fun e => by have := hr _ e.symm; omega), h3.grown hg h3.size (fun k e => by have := hr _ e; omega), h4⟩
    case h0 => exact ⟨HV3.out, KC.refl _ _, HB3.out, rfl⟩
    case hAx =>
      intro x a'
      right
      rintro A l2 o o' ⟨Bx, h1, h2, h3⟩ hl ho
      exact ⟨Bx, h1, CellsAt.keepC (P := fun _ => True) h2 trivial (KC.putObj o' hl ho), h3⟩
    case assign =>
      rintro l2 ps ⟨d, xx, xcs, xrep, xmem⟩ W' K ⟨h1, h2, h3, h4⟩ hz hK
      obtain ⟨xk, xn, xs, xt, B0, p0, r0, B1', p1, r1, rfl⟩ := xrep.shape2
      gi_wp2
      exact hK _ _ (KeepsFrom.of_grownBy (World.grownBy_alloc W' _ none) (fun j e => by cases e)) (KC.alloc _ _ _) ⟨h1.kept (World.grownBy_alloc _ _ none) (by simp), h2.trans (KC.alloc _ _ _), h3.alloc h3.size _, h4⟩ ⟨W'.heap.size, hz, cellsAt_new _ _ _, rfl⟩
    case body =>
      rintro l2 ps ⟨d, xx, xcs, xrep, xmem⟩ a' W' hl2 ⟨rr, hrr⟩ ⟨h1, h2, h3, h4⟩ ⟨Bx, hBx, hcx, rfl⟩
      obtain ⟨xk, xn, xs, xt, B0, p0, r0, B1', p1, r1, rfl⟩ := xrep.shape2
      obtain ⟨hp1, hp2⟩ := xrep.labs
      have d4 : W'.cell? ⟨Bx, 4, none⟩ = some (.slice B1' p1 r1) := hcx 4 _ rfl
      have c4 := h1.c
      have f4 := h1.fr 0
      have hp3 : (p1 : Int) ≤ 9223372036854775807 := by unfold maxLen at hp2; omega
      have HSn := Lib.hid (manyT_snoc (ps.map fxT) (d, xx) h4)
      have HPp := Lib.hid hp1
      have HB := Lib.hid h1
      have HK := Lib.hid h2
      have HW := Lib.hid h3
      obtain ⟨y, hy⟩ : ∃ y : Int × PtT (fun _ => True) (fun b => b ≠ w.heap.size + 1) w, y = (d, ⟨xx, _, xrep, xmem⟩) := ⟨_, rfl⟩
      have HY : Hid ((ps ++ [y]).map fxT = ps.map fxT ++ [(d, xx)]) := Lib.hid (by rw [hy, List.map_append]; rfl)
      rw [← hy]
      clear hcx h1 h2 h3 h4 hp1 hp2 hy
      by_cases hq : 24 < p1
      · have q1 : decide ((24 : Int) < (p1 : Int)) = true := decide_eq_true (by omega)
        gi_wp2
        have hg2 := grown_set W' ⟨w.heap.size + 1, 0, none⟩ (.int .i64 3)
        exact ⟨(KeepsOthers.setCell W' ⟨w.heap.size + 1, 0, none⟩ (.int .i64 3)).from _, KC.of_grown hg2 (fun b hb e => hb (Option.some.inj e)), rfl, HB.out.set _, HW.out.grown hg2 HW.out.size (fun k e => by have : w.heap.size + 1 = k := Option.some.inj e; omega), by rw [HY.out, HSn.out, ← HPp.out]; exact decide_eq_true hq⟩
      · have q1 : decide ((24 : Int) < (p1 : Int)) = false := decide_eq_false (by omega)
        gi_wp2
        exact ⟨KeepsFrom.refl _ _, KC.refl _ _, HB.out, HK.out, HW.out, by rw [HY.out, HSn.out, ← HPp.out]; exact decide_eq_false hq⟩
    case done =>
      rintro D2 ys W' hD hS ⟨h1, h2, h3, h4⟩ hKD
      have HRf : Hid (R = V) := Lib.hid (by rw [HR2.out, ← hS, h4, if_neg (by simp)])
      have HV4 := Lib.hid h1
      have HB4 := Lib.hid h3
      have HK4 := Lib.hid hKD
      clear a0 a1 a2 a3 a4 a5
      have a0 := (h2.2 _ _ _ (by omega) HE3.out.c0).1
      have a1 := (h2.2 _ _ _ (by omega) HE3.out.c1).1
      have a2 := (h2.2 _ _ _ (by omega) HE3.out.c2).1
      have a3 := (h2.2 _ _ _ (by omega) HE3.out.c3).1
      have a4 := (h2.2 _ _ _ (by omega) HE3.out.c4).1
      have a5 := (h2.2 _ _ _ (by omega) HE3.out.c5).1
      clear h1 h2 h3 h4 hS hKD c4 f4
      gi_wp2_with (first | (refine ⟨trivial, ?_⟩; gi_at_call 132; refine ((callsIn_wide).2 (HN.out _)).mono ?_; rintro r w1 ⟨rfl, rfl⟩) | (refine ⟨trivial, ?_⟩; gi_at_call 93; refine ((callsIn_wide).2 (HF.out _ HB4.out)).mono ?_; rintro r w5 ⟨rfl, hb⟩; have HV5 := Lib.hid (HV4.out.kept (grown_below hb none) (by simp)); have HB5 := Lib.hid (HB4.out.trans (hb.mono HB4.out.size)); have HK5 := Lib.hid ((hb.block _ (Array.getElem?_eq_some_iff.1 HK4.out).1).trans HK4.out); have c4 := HV5.out.c; have f4 := HV5.out.fr 0; clear hb))
      have hg := grown_set w5 ⟨w.heap.size + 1, 0, none⟩ (.int .i64 V)
      have hKD' := (KeepsOthers.setCell w5 ⟨w.heap.size + 1, 0, none⟩ (.int .i64 V)).same D2 _ HK5.out rfl
      have hB := HB5.out.grown hg HB5.out.size (fun k e => by have : w.heap.size + 1 = k := Option.some.inj e; omega)
      refine ⟨by simp, .inl ⟨_, _, rfl, run_takeDeferred hKD', ?_⟩⟩
      exact ⟨_, res_ckT rfl ((KC.putObj (P := fun _ => True) (.deferred none) hKD' rfl).2 _ _ _ trivial (HV5.out.set (.int .i64 V)).c).1, by rw [HRf.out], hB.grown (grownBy_putObj' _ D2 (.deferred none)) hB.size (fun k e => by have : D2 = k := Option.some.inj e; omega)⟩
    case stop =>
      rintro D2 c ps W' hD hSp ⟨rfl, h1, h3, h4⟩ hKD
      have HRf : Hid (R = 3) := Lib.hid (by
        obtain ⟨rest, hrest⟩ := hSp
        rw [HR2.out, ← hrest, manyT_true _ _ h4, if_pos rfl])
      gi_wp2
      refine ⟨by simp, .inl ⟨_, _, rfl, run_takeDeferred hKD, ?_⟩⟩
      exact ⟨_, res_ckT rfl ((KC.putObj (P := fun _ => True) (.deferred none) hKD rfl).2 _ _ _ trivial h1.c).1, by rw [HRf.out], h3.grown (grownBy_putObj' _ D2 (.deferred none)) h3.size (fun k e => by have : D2 = k := Option.some.inj e; omega)⟩
end Go.Proofs.YtbmicnajedeenaaGreatDoor
