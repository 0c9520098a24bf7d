/- Texts put together by program: TyBa TyBb TyBc TyBd TyBe TyBf. -/
import Derived.Test.YtbfojibhdadglaaGreatDoorMgF
import Derived.Test.YtbfojibhdadglaaGreatDoorMgQ
/- The printer: labels and rows of types. -/
namespace Go.Proofs.YtbfojibhdadglaaGreatDoor
open Go.RowKit

/-- the level of a type -/
def lvT (k : Int) (nl : Nat) : Int := if k = 5 then 0 else if k = 6 ∧ 0 < nl then 1 else 2
def labP (x : Txt × Int) : List Txt := [x.1] ++ (if x.2 = 0 then [] else [[64], Lib.itoa x.2])
def labsP (l : List (Txt × Int)) : List Txt := listP [44, 32] (l.map labP)
def tailP (n : Nat) (tl : Int) : List Txt := if tl = -1 then [] else (if n = 0 then [] else [[32]]) ++ [[124, 32, 114], Lib.itoa tl]
def rowP (ls : List (Txt × Int)) (tl : Int) : List Txt := [[60]] ++ (labsP ls ++ (tailP ls.length tl ++ [[62]]))
def argsP (l : List LvP) : List Txt := l.flatMap fun q => [[32]] ++ atP 2 q
/-- the pieces of a type's node, its parts' pieces being given -/
def tyP (k n : Int) (s : Txt) (l : List LvP) (ls : List (Txt × Int)) (tl : Int) : List Txt :=
  if k = 0 then [[116], Lib.itoa n] else if k = 2 then [[73, 110, 116]] else if k = 3 then [[66, 111, 111, 108]] else if k = 4 then [[85, 110, 105, 116]]
  else if k = 5 then atP 1 (nth l 0) ++ ([[32, 45, 62, 32]] ++ ((if 0 < ls.length ∨ tl ≠ -1 then rowP ls tl ++ [[32]] else []) ++ atP 0 (nth l 1)))
  else [s] ++ argsP l
mutual
def pcsT : Ty → List Txt
  | .mk k n s l ls tl => tyP k n s (pcsTL l) ls tl
def pcsTL : List Ty → List LvP
  | [] => []
  | e :: r => (lvT e.k e.l.length, pcsT e) :: pcsTL r
end
def Ty.lp (e : Ty) : LvP := (lvT e.k e.l.length, pcsT e)
theorem pcsTL_map : ∀ l : List Ty, pcsTL l = l.map Ty.lp
  | [] => rfl
  | e :: r => by rw [pcsTL, pcsTL_map r]; rfl
theorem pcsT_mk (k n : Int) (s : Txt) (l : List Ty) (ls : List (Txt × Int)) (tl : Int) : pcsT (.mk k n s l ls tl) = tyP k n s (l.map Ty.lp) ls tl := by rw [pcsT, pcsTL_map]
theorem labsP_snoc (l : List (Txt × Int)) (x : Txt × Int) : labsP (l ++ [x]) = labsP l ++ (if l = [] then labP x else [[44, 32]] ++ labP x) := by
  unfold labsP
  rw [List.map_append, List.map_cons, List.map_nil, listP_snoc]
  cases l <;> simp
theorem labsP_prefix (l : List (Txt × Int)) (k : Nat) : labsP (l.take k) <+: labsP l := by
  unfold labsP; rw [List.map_take]; exact listP_prefix _ _ _
/-- the two cells of a label fill block g -/
def LB (w : World) (g : Nat) (v0 v1 : Value) : Prop := w.heap[g]? = some (.cells #[v0, v1] 68 (0, 0))
theorem LB.c {w : World} {g : Nat} {v0 v1 : Value} (h : LB w g v0 v1) : w.cell? ⟨g, 0, none⟩ = some v0 ∧ w.cell? ⟨g, 1, none⟩ = some v1 := ⟨cell_of_row w g 0 _ _ (0, 0) h, cell_of_row w g 1 _ _ (0, 0) h⟩
theorem LB.fr {B p : Nat} {w w' : World} {g : Nat} {v0 v1 : Value} (h : LB w g v0 v1) (hf : FrP B p w w') (hne : g ≠ p) : LB w' g v0 v1 := hf.blk h (by decide) hne
theorem LB.below {w w' : World} {g : Nat} {v0 v1 : Value} (h : LB w g v0 v1) (hb : Below w.heap.size w w') : LB w' g v0 v1 := (hb.block _ (Array.getElem?_eq_some_iff.1 h).1).trans h

set_option maxRecDepth 100000 in
set_option maxHeartbeats 2000000 in
theorem label_any (B p x m : Nat) (lim : Int) (bs : Txt) (y : Txt × Int) (w : World) (h : Pr B p x m lim bs w) (hn : okN y.2) (hlen : bs.length + tot (labP y) ≤ 140737488355328) :
    Calls Tryz.prog 171 #[.pointer (some ⟨p, 0, none⟩), .agg #[.string (strB y.1), .int .i64 y.2]] w fun e w' => e = .returned (.tuple #[]) ∧ PrF B p x m lim (wrs lim bs (labP y)) w w' := by
  obtain ⟨s, n⟩ := y
  show Calls Tryz.prog 171 #[.pointer (some ⟨p, 0, none⟩), .agg #[.string (strB s), .int .i64 n]] w fun e w' => e = .returned (.tuple #[]) ∧ PrF B p x m lim (wrs lim bs (labP (s, n))) w w'
  obtain ⟨W1, hW1⟩ : ∃ W1, w.alloc (.cells #[.string (strB s), .int .i64 n] 68) = W1 := ⟨_, rfl⟩
  have HF1 : Hid (PrF B p x m lim bs w W1) := Lib.hid (by rw [← hW1]; exact (PrF.refl h).below ((Below.refl _ _).alloc (Nat.le_refl _) _))
  have HE1 : Hid (LB W1 w.heap.size (.string (strB s)) (.int .i64 n)) := Lib.hid (by rw [← hW1]; exact heap_alloc_new w _)
  have hgp : w.heap.size ≠ p := by have := h.ltp; omega
  have HD := Lib.hid (fun w' hT => Digits_any n w' hn hT)
  obtain ⟨e0, e1⟩ := HE1.out.c
  have HL1 : Hid (bs.length + tot [s] ≤ 140737488355328) := Lib.hid (by
    have : tot (labP (s, n)) = tot [s] + tot (if n = 0 then [] else [[64], Lib.itoa n]) := by unfold labP; rw [tot_append]
    omega)
  have HL2 : Hid ((wrs lim bs [s]).length + tot (if n = 0 then [] else [[64], Lib.itoa n]) ≤ 140737488355328) := Lib.hid (by
    have h1 : tot (labP (s, n)) = tot [s] + tot (if n = 0 then [] else [[64], Lib.itoa n]) := by unfold labP; rw [tot_append]
    have := wrs_len lim [s] bs
    omega)
  have HQ : Hid (wrs lim bs (labP (s, n)) = wrs lim (wrs lim bs [s]) (if n = 0 then [] else [[64], Lib.itoa n])) := Lib.hid (by unfold labP; rw [wrs_append])
  obtain ⟨Z, hZ⟩ : ∃ Z, Z = wrs lim bs (labP (s, n)) := ⟨_, rfl⟩
  rw [← hZ] at HQ ⊢
  obtain ⟨bs1, hb1⟩ : ∃ Z, Z = wrs lim bs [s] := ⟨_, rfl⟩
  rw [← hb1] at HQ HL2
  have HB1 := Lib.hid hb1
  clear h hn hlen hZ hb1
  by_cases h0 : n = 0
  · have HQ2 : Hid (Z = bs1) := Lib.hid (by rw [HQ.out, if_pos h0]; rfl)
    subst h0
    go_enter Tryz.func171, Tryz.ntmps171
    go_wp2_with fail
    clear hW1
    refine (write_new [s] W1 HF1.out (by simp) HL1.out).mono ?_
    rintro e w2 ⟨rfl, hp2, hf2⟩
    have HR := Lib.hid hp2
    have HE2 := Lib.hid (HE1.out.fr hf2 hgp)
    clear hp2 hf2 e0 e1
    obtain ⟨e0, e1⟩ := HE2.out.c
    go_wp2_with fail
    go_end0
    exact ⟨rfl, by rw [HQ2.out, HB1.out]; exact HR.out⟩
  · have h0b : (n != 0) = true := by simpa using h0
    have HQ2 : Hid (Z = wrs lim bs1 [[64], Lib.itoa n]) := Lib.hid (by rw [HQ.out, if_neg h0])
    rw [if_neg h0] at HL2
    clear h0
    go_enter Tryz.func171, Tryz.ntmps171
    go_wp2_with fail
    clear hW1
    refine (write_new [s] W1 HF1.out (by simp) HL1.out).mono ?_
    rintro e w2 ⟨rfl, hp2, hf2⟩
    have HR : Hid (PrF B p x m lim bs1 w w2) := Lib.hid (by rw [HB1.out]; exact hp2)
    have HE2 := Lib.hid (HE1.out.fr hf2 hgp)
    clear hp2 hf2 e0 e1
    obtain ⟨e0, e1⟩ := HE2.out.c
    go_wp2_with fail
    refine (HD.out _ HR.out.1.2.2.2.2.2.2.1).mono ?_
    rintro e w3 ⟨rfl, hb⟩
    have HF3 := Lib.hid (HR.out.below hb)
    clear hb HD
    go_wp2_with fail
    refine (write_new [[64], Lib.itoa n] w3 HF3.out (by simp) HL2.out).mono ?_
    rintro e w4 ⟨rfl, hp2, hf2⟩
    have HR4 := Lib.hid hp2
    clear hp2 hf2
    go_wp2_with fail
    go_end0
    exact ⟨rfl, by rw [HQ2.out]; exact HR4.out⟩

set_option maxRecDepth 100000 in
set_option maxHeartbeats 4000000 in
theorem listL_any (B p x m : Nat) (lim : Int) (bs : Txt) (A : Option Addr) (c : Nat) (l : List (Txt × Int)) (w : World) (h : Pr B p x m lim bs w) (hP : LabsAt (fun b => b < B) w A l) (hl : l.length ≤ maxLen) (hok : ∀ y ∈ l, okN y.2) (hlen : bs.length + tot (labsP l) ≤ 140737488355328) :
    Calls Tryz.prog 170 #[.pointer (some ⟨p, 0, none⟩), .slice A l.length c, .string (strB [44, 32]), .func (.func 171) #[.pointer (some ⟨p, 0, none⟩)] #[]] w fun e w' => e = .returned (.tuple #[]) ∧ PrF B p x m lim (wrs lim bs (labsP l)) w w' := by
  have HP := Lib.hid h
  have HPa := Lib.hid hP
  have HLn := Lib.hid hlen
  have HOk := Lib.hid hok
  obtain ⟨n, hnn⟩ : ∃ n, n = l.length := ⟨_, rfl⟩
  have HL := Lib.hid hnn
  obtain ⟨sep, hsep⟩ : ∃ sep : Txt, sep = [44, 32] := ⟨_, rfl⟩
  have HSep := Lib.hid hsep
  unfold maxLen at hl
  rw [← hnn, ← hsep]
  rw [← hnn] at hl
  clear h hP hlen hnn hok hsep
  go_enter Tryz.func170, Tryz.ntmps170
  go_wp2_with fail
  go_loopw [12] (fun i wr => ∃ k : Nat, k ≤ n ∧ i = .int .i64 (k : Int) ∧ Hid (PrF B p x m lim (wrs lim bs (labsP (l.take k))) w wr)) (fun i _ => n - (intOf i).toNat)
  case atStart => exact ⟨0, Nat.zero_le _, rfl, Lib.hid ⟨HP.out, FrP.refl _ _ _⟩⟩
  case round =>
    obtain ⟨k, hk, rfl, hPF⟩ := hrel
    have i0 : (0 : Int) ≤ (k : Int) := by omega
    by_cases hkl : k < n
    · have hke : k < l.length := by rw [← HL.out]; exact hkl
      have i1 : (k : Int) < (n : Int) := by omega
      obtain ⟨y, hy⟩ : ∃ e, e = l[k] := ⟨_, rfl⟩
      have HEl : Hid (l[k]? = some y) := Lib.hid (by rw [hy]; exact List.getElem?_eq_getElem hke)
      have HYn : Hid (okN y.2) := Lib.hid (HOk.out y (by rw [hy]; exact List.getElem_mem hke))
      have HTk : Hid (labsP (l.take (k + 1)) = labsP (l.take k) ++ (if k = 0 then labP y else [[44, 32]] ++ labP y)) := Lib.hid (by
        rw [take_succ_of hke, labsP_snoc, ← hy]
        congr 1
        by_cases h0 : k = 0
        · subst h0; rfl
        · rw [if_neg h0, if_neg (fun h => h0 (by have := congrArg List.length h; rw [List.length_take, List.length_nil] at this; omega))])
      have HB : Hid ((wrs lim bs (labsP (l.take k))).length + tot (if k = 0 then labP y else [[44, 32]] ++ labP y) ≤ 140737488355328) := Lib.hid (by
        have h1 := wrs_len lim (labsP (l.take k)) bs
        have h2 := tot_prefix (labsP_prefix l (k + 1))
        rw [HTk.out, tot_append] at h2
        have := HLn.out
        omega)
      obtain ⟨b, off, rfl, hb1, hb2, hcc⟩ := (HPa.out.keep hPF.out.2.same) (List.ne_nil_of_length_pos (by omega))
      obtain ⟨d0, d1⟩ := hcc k y HEl.out
      obtain ⟨bs1, hbs1⟩ : ∃ b, b = wrs lim bs (labsP (l.take k)) := ⟨_, rfl⟩
      have HT2 : Hid (wrs lim bs (labsP (l.take (k + 1))) = wrs lim bs1 (if k = 0 then labP y else [[44, 32]] ++ labP y)) := Lib.hid (by rw [HTk.out, wrs_append, hbs1])
      rw [← hbs1] at hPF HB
      obtain ⟨X, hX⟩ : ∃ X, X = strB y.1 := ⟨_, rfl⟩
      obtain ⟨M, hM⟩ : ∃ X, X = y.2 := ⟨_, rfl⟩
      have HLa : Hid (∀ (bs' : Txt) (w' : World), Pr B p x m lim bs' w' → bs'.length + tot (labP y) ≤ 140737488355328 → Calls Tryz.prog 171 #[.pointer (some ⟨p, 0, none⟩), .agg #[.string X, .int .i64 M]] w' fun e' w2 => e' = .returned (.tuple #[]) ∧ PrF B p x m lim (wrs lim bs' (labP y)) w' w2) := Lib.hid (fun bs' w' h1 h2 => by
        rw [hX, hM]
        exact label_any B p x m lim bs' y w' h1 HYn.out h2)
      rw [← hX] at d0
      rw [← hM] at d1
      obtain ⟨W1, hW1⟩ : ∃ W1, wr.alloc (.cells #[.string X, .int .i64 M] 68) = W1 := ⟨_, rfl⟩
      have HF1 : Hid (PrF B p x m lim bs1 w W1) := Lib.hid (by rw [← hW1]; exact hPF.out.below ((Below.refl _ _).alloc (Nat.le_refl _) _))
      have HE1 : Hid (LB W1 wr.heap.size (.string X) (.int .i64 M)) := Lib.hid (by rw [← hW1]; exact heap_alloc_new wr _)
      have hgp : wr.heap.size ≠ p := by have := hPF.out.1.ltp; omega
      obtain ⟨g0, g1⟩ := HE1.out.c
      clear hcc hbs1 hy hX hM
      by_cases hk0 : k = 0
      · have HB2 : Hid (bs1.length + tot (labP y) ≤ 140737488355328) := Lib.hid (by have := HB.out; rwa [if_pos hk0] at this)
        have HT3 : Hid (wrs lim bs (labsP (l.take (k + 1))) = wrs lim bs1 (labP y)) := Lib.hid (by rw [HT2.out, if_pos hk0])
        have HC := Lib.hid (HLa.out bs1 W1 HF1.out.1 HB2.out)
        subst hk0
        simp only [Nat.zero_mul, Nat.add_zero] at d0 d1
        have j0 : (0 : Int) < (n : Int) := by omega
        have j1 : 0 < n := by omega
        go_wp2_with fail
        clear hW1
        refine HC.out.mono ?_
        rintro e' w3 ⟨rfl, hp3⟩
        have HP3 : Hid (PrF B p x m lim (wrs lim bs (labsP (l.take (0 + 1)))) w w3) := Lib.hid (by rw [HT3.out]; exact HF1.out.then hp3)
        clear hp3 d0 d1 g0 g1 HC
        go_wp2_with fail
        go_roundw
        case rel => exact ⟨0 + 1, by omega, by go_num, HP3⟩
        case measure => simp [intOf]; omega
      · have hdd : decide (0 < (k : Int)) = true := by simp; omega
        have hd2 : 0 < k := by omega
        have HB2 : Hid (bs1.length + tot [sep] ≤ 140737488355328) := Lib.hid (by have := HB.out; rw [if_neg hk0, tot_append, ← HSep.out] at this; omega)
        have HB3 : Hid ((wrs lim bs1 [sep]).length + tot (labP y) ≤ 140737488355328) := Lib.hid (by have := HB.out; rw [if_neg hk0, tot_append, ← HSep.out] at this; have h4 := wrs_len lim [sep] bs1; omega)
        have HT3 : Hid (wrs lim bs (labsP (l.take (k + 1))) = wrs lim (wrs lim bs1 [sep]) (labP y)) := Lib.hid (by rw [HT2.out, if_neg hk0, wrs_append, HSep.out])
        clear hk0
        go_wp2_with fail
        clear hW1
        refine (write_new [sep] W1 HF1.out (by simp) HB2.out).mono ?_
        rintro e' w2 ⟨rfl, hp2, hf2⟩
        have HP2 := Lib.hid hp2
        have HE2 := Lib.hid (HE1.out.fr hf2 hgp)
        have HC := Lib.hid (HLa.out _ w2 hp2.1 HB3.out)
        clear hp2 hf2 d0 d1 g0 g1
        obtain ⟨g0, g1⟩ := HE2.out.c
        go_wp2_with fail
        refine HC.out.mono ?_
        rintro e' w3 ⟨rfl, hp3⟩
        have HP3 : Hid (PrF B p x m lim (wrs lim bs (labsP (l.take (k + 1)))) w w3) := Lib.hid (by rw [HT3.out]; exact HP2.out.then hp3)
        clear hp3 g0 g1 HC
        go_wp2_with fail
        go_roundw
        case rel => exact ⟨k + 1, by omega, by go_num, HP3⟩
        case measure => simp [intOf]; omega
    · obtain rfl : k = n := by omega
      have HE : Hid (PrF B p x m lim (wrs lim bs (labsP l)) w wr) := Lib.hid (by have := hPF.out; rwa [HL.out, List.take_length] at this)
      go_wp2_with fail
      go_end0
      exact ⟨rfl, HE.out⟩
end Go.Proofs.YtbfojibhdadglaaGreatDoor
/- The printer: rows of types; levels; arguments. -/
namespace Go.Proofs.YtbfojibhdadglaaGreatDoor
open Go.RowKit

/-- the two cells of a row fill block g -/
def RB (w : World) (g : Nat) (v0 v1 : Value) : Prop := w.heap[g]? = some (.cells #[v0, v1] 26 (0, 0))
theorem RB.c {w : World} {g : Nat} {v0 v1 : Value} (h : RB w g v0 v1) : w.cell? ⟨g, 0, none⟩ = some v0 ∧ w.cell? ⟨g, 1, none⟩ = some v1 := ⟨cell_of_row w g 0 _ _ (0, 0) h, cell_of_row w g 1 _ _ (0, 0) h⟩
theorem RB.fr {B p : Nat} {w w' : World} {g : Nat} {v0 v1 : Value} (h : RB w g v0 v1) (hf : FrP B p w w') (hne : g ≠ p) : RB w' g v0 v1 := hf.blk h (by decide) hne
theorem RB.below {w w' : World} {g : Nat} {v0 v1 : Value} (h : RB w g v0 v1) (hb : Below w.heap.size w w') : RB w' g v0 v1 := (hb.block _ (Array.getElem?_eq_some_iff.1 h).1).trans h

set_option maxRecDepth 100000 in
set_option maxHeartbeats 4000000 in
theorem row_any (B p x m : Nat) (lim : Int) (bs : Txt) (A : Option Addr) (c : Nat) (ls : List (Txt × Int)) (tl : Int) (w : World) (h : Pr B p x m lim bs w) (hP : LabsAt (fun b => b < B) w A ls) (hl : ls.length ≤ maxLen) (hok : ∀ y ∈ ls, okN y.2) (htl : okN tl) (hlen : bs.length + tot (rowP ls tl) ≤ 140737488355328) :
    Calls Tryz.prog 143 #[.pointer (some ⟨p, 0, none⟩), .agg #[.slice A ls.length c, .int .i64 tl]] w fun e w' => e = .returned (.tuple #[]) ∧ PrF B p x m lim (wrs lim bs (rowP ls tl)) w w' := by
  have HLi := Lib.hid (fun (bs' : Txt) (w' : World) (h1 : PrF B p x m lim bs' w w') h3 => listL_any B p x m lim bs' A c ls w' h1.1 (hP.keep h1.2.same) hl hok h3)
  have HT : Hid (tot (rowP ls tl) = tot [[60]] + (tot (labsP ls) + (tot (tailP ls.length tl) + tot [[62]]))) := Lib.hid (by unfold rowP; rw [tot_append, tot_append, tot_append])
  have HL1 := Lib.hid (wrs_fit hlen HT.out)
  have HL2 := Lib.hid (wrs_le lim [[60]] bs hlen HT.out)
  have HL3 := Lib.hid (wrs_fit HL2.out rfl)
  have HL4 := Lib.hid (wrs_le lim (labsP ls) _ HL2.out rfl)
  have HQ : Hid (wrs lim bs (rowP ls tl) = wrs lim (wrs lim (wrs lim (wrs lim bs [[60]]) (labsP ls)) (tailP ls.length tl)) [[62]]) := Lib.hid (by unfold rowP; rw [wrs_append, wrs_append, wrs_append])
  have HD := Lib.hid (fun w' hT => Digits_any tl w' htl hT)
  obtain ⟨psx, hpsx⟩ : ∃ q, q = rowP ls tl := ⟨_, rfl⟩
  obtain ⟨n, hn⟩ : ∃ q, q = ls.length := ⟨_, rfl⟩
  have hn2 : (n : Int) ≤ 9223372036854775807 := by unfold maxLen at hl; omega
  rw [← hpsx, ← hn] at HQ
  rw [← hpsx, ← hn]
  rw [← hn] at HLi HL4
  obtain ⟨W1, hW1⟩ : ∃ W1, w.alloc (.cells #[.slice A n c, .int .i64 tl] 26) = W1 := ⟨_, rfl⟩
  have HF1 : Hid (PrF B p x m lim bs w W1) := Lib.hid (by rw [← hW1]; exact (PrF.refl h).below ((Below.refl _ _).alloc (Nat.le_refl _) _))
  have HE1 : Hid (RB W1 w.heap.size (.slice A n c) (.int .i64 tl)) := Lib.hid (by rw [← hW1]; exact heap_alloc_new w _)
  have hgp : w.heap.size ≠ p := by have := h.ltp; omega
  obtain ⟨e0, e1⟩ := HE1.out.c
  obtain ⟨bs2, hb2⟩ : ∃ q, q = wrs lim bs [[60]] := ⟨_, rfl⟩
  rw [← hb2] at HQ HL3 HL4 HL2
  have HB2 := Lib.hid hb2
  obtain ⟨bs3, hb3⟩ : ∃ q, q = wrs lim bs2 (labsP ls) := ⟨_, rfl⟩
  rw [← hb3] at HQ HL4
  have HB3 := Lib.hid hb3
  clear h hP hl hok htl hlen hpsx hn HT HL2 hb2 hb3
  by_cases ht : tl = -1
  · have HZ : Hid (tailP n tl = []) := Lib.hid (by unfold tailP; rw [if_pos ht])
    rw [HZ.out] at HL4 HQ
    have htb : (tl != -1) = false := by simpa using ht
    subst ht
    go_enter Tryz.func143, Tryz.ntmps143
    go_wp2_with fail
    clear hW1
    refine (write_new [[60]] W1 HF1.out (by simp) HL1.out).mono ?_
    rintro e w2 ⟨rfl, hp2, hf2⟩
    have HP2 : Hid (PrF B p x m lim bs2 w w2) := Lib.hid (by rw [HB2.out]; exact hp2)
    have HE2 := Lib.hid (HE1.out.fr hf2 hgp)
    clear hp2 hf2 e0 e1
    obtain ⟨e0, e1⟩ := HE2.out.c
    go_wp2_with fail
    refine (HLi.out _ w2 HP2.out HL3.out).mono ?_
    rintro e w3 ⟨rfl, hp3⟩
    have HP3 : Hid (PrF B p x m lim bs3 w w3) := Lib.hid (by rw [HB3.out]; exact HP2.out.then hp3)
    have HE3 := Lib.hid (HE2.out.fr hp3.2 hgp)
    clear hp3 e0 e1
    obtain ⟨e0, e1⟩ := HE3.out.c
    go_wp2_with fail
    refine (write_new [[62]] w3 HP3.out (by simp) HL4.out).mono ?_
    rintro e w4 ⟨rfl, hp4, hf4⟩
    have HP4 := Lib.hid hp4
    clear hp4 hf4 e0 e1
    go_wp2_with fail
    go_end0
    exact ⟨rfl, by rw [HQ.out]; exact HP4.out⟩
  · have htb : (tl != -1) = true := by simpa using ht
    by_cases h0 : n = 0
    · have HZ : Hid (tailP n tl = [[124, 32, 114], Lib.itoa tl]) := Lib.hid (by unfold tailP; rw [if_neg ht, if_pos h0]; rfl)
      rw [HZ.out] at HL4 HQ
      have HL5 := Lib.hid (wrs_fit HL4.out rfl)
      have HL6 := Lib.hid (wrs_le lim [[124, 32, 114], Lib.itoa tl] _ HL4.out rfl)
      obtain ⟨bs4, hb4⟩ : ∃ q, q = wrs lim bs3 [[124, 32, 114], Lib.itoa tl] := ⟨_, rfl⟩
      rw [← hb4] at HQ HL6
      have HB4 := Lib.hid hb4
      clear hb4 ht
      subst h0
      go_enter Tryz.func143, Tryz.ntmps143
      go_wp2_with fail
      clear hW1
      refine (write_new [[60]] W1 HF1.out (by simp) HL1.out).mono ?_
      rintro e w2 ⟨rfl, hp2, hf2⟩
      have HP2 : Hid (PrF B p x m lim bs2 w w2) := Lib.hid (by rw [HB2.out]; exact hp2)
      have HE2 := Lib.hid (HE1.out.fr hf2 hgp)
      clear hp2 hf2 e0 e1
      obtain ⟨e0, e1⟩ := HE2.out.c
      go_wp2_with fail
      refine (HLi.out _ w2 HP2.out HL3.out).mono ?_
      rintro e w3 ⟨rfl, hp3⟩
      have HP3 : Hid (PrF B p x m lim bs3 w w3) := Lib.hid (by rw [HB3.out]; exact HP2.out.then hp3)
      have HE3 := Lib.hid (HE2.out.fr hp3.2 hgp)
      clear hp3 e0 e1
      obtain ⟨e0, e1⟩ := HE3.out.c
      go_wp2_with fail
      refine (HD.out _ HP3.out.1.2.2.2.2.2.2.1).mono ?_
      rintro e w4 ⟨rfl, hb⟩
      have HP4 := Lib.hid (HP3.out.below hb)
      clear hb HD e0 e1
      go_wp2_with fail
      refine (write_new [[124, 32, 114], Lib.itoa tl] w4 HP4.out (by simp) HL5.out).mono ?_
      rintro e w5 ⟨rfl, hp5, hf5⟩
      have HP5 : Hid (PrF B p x m lim bs4 w w5) := Lib.hid (by rw [HB4.out]; exact hp5)
      clear hp5 hf5
      go_wp2_with fail
      refine (write_new [[62]] w5 HP5.out (by simp) HL6.out).mono ?_
      rintro e w6 ⟨rfl, hp6, hf6⟩
      have HP6 := Lib.hid hp6
      clear hp6 hf6
      go_wp2_with fail
      go_end0
      exact ⟨rfl, by rw [HQ.out]; exact HP6.out⟩
    · have HZ : Hid (tailP n tl = [[32]] ++ [[124, 32, 114], Lib.itoa tl]) := Lib.hid (by unfold tailP; rw [if_neg ht, if_neg h0])
      rw [HZ.out, wrs_append] at HQ
      rw [HZ.out] at HL4
      have HL4b : Hid (bs3.length + (tot [[32]] + (tot [[124, 32, 114], Lib.itoa tl] + tot [[62]])) ≤ 140737488355328) := Lib.hid (by have := HL4.out; rw [tot_append] at this; omega)
      have HL5 := Lib.hid (wrs_fit HL4b.out rfl)
      have HL6 := Lib.hid (wrs_le lim [[32]] _ HL4b.out rfl)
      have HL7 := Lib.hid (wrs_fit HL6.out rfl)
      have HL8 := Lib.hid (wrs_le lim [[124, 32, 114], Lib.itoa tl] _ HL6.out rfl)
      obtain ⟨bs4, hb4⟩ : ∃ q, q = wrs lim bs3 [[32]] := ⟨_, rfl⟩
      rw [← hb4] at HQ HL6 HL7 HL8
      have HB4 := Lib.hid hb4
      obtain ⟨bs5, hb5⟩ : ∃ q, q = wrs lim bs4 [[124, 32, 114], Lib.itoa tl] := ⟨_, rfl⟩
      rw [← hb5] at HQ HL8
      have HB5 := Lib.hid hb5
      have h0n : ¬ n = 0 := h0
      clear hb4 hb5 ht h0
      go_enter Tryz.func143, Tryz.ntmps143
      go_wp2_with fail
      clear hW1
      refine (write_new [[60]] W1 HF1.out (by simp) HL1.out).mono ?_
      rintro e w2 ⟨rfl, hp2, hf2⟩
      have HP2 : Hid (PrF B p x m lim bs2 w w2) := Lib.hid (by rw [HB2.out]; exact hp2)
      have HE2 := Lib.hid (HE1.out.fr hf2 hgp)
      clear hp2 hf2 e0 e1
      obtain ⟨e0, e1⟩ := HE2.out.c
      go_wp2_with fail
      refine (HLi.out _ w2 HP2.out HL3.out).mono ?_
      rintro e w3 ⟨rfl, hp3⟩
      have HP3 : Hid (PrF B p x m lim bs3 w w3) := Lib.hid (by rw [HB3.out]; exact HP2.out.then hp3)
      have HE3 := Lib.hid (HE2.out.fr hp3.2 hgp)
      clear hp3 e0 e1
      obtain ⟨e0, e1⟩ := HE3.out.c
      go_wp2_with fail
      refine (write_new [[32]] w3 HP3.out (by simp) HL5.out).mono ?_
      rintro e w4 ⟨rfl, hp4, hf4⟩
      have HP4 : Hid (PrF B p x m lim bs4 w w4) := Lib.hid (by rw [HB4.out]; exact hp4)
      have HE4 := Lib.hid (HE3.out.fr hf4 hgp)
      clear hp4 hf4 e0 e1
      obtain ⟨e0, e1⟩ := HE4.out.c
      go_wp2_with fail
      refine (HD.out _ HP4.out.1.2.2.2.2.2.2.1).mono ?_
      rintro e w5 ⟨rfl, hb⟩
      have HP5 := Lib.hid (HP4.out.below hb)
      clear hb HD e0 e1
      go_wp2_with fail
      refine (write_new [[124, 32, 114], Lib.itoa tl] w5 HP5.out (by simp) HL7.out).mono ?_
      rintro e w6 ⟨rfl, hp6, hf6⟩
      have HP6 : Hid (PrF B p x m lim bs5 w w6) := Lib.hid (by rw [HB5.out]; exact hp6)
      clear hp6 hf6
      go_wp2_with fail
      refine (write_new [[62]] w6 HP6.out (by simp) HL8.out).mono ?_
      rintro e w7 ⟨rfl, hp7, hf7⟩
      have HP7 := Lib.hid hp7
      clear hp7 hf7
      go_wp2_with fail
      go_end0
      exact ⟨rfl, by rw [HQ.out]; exact HP7.out⟩

set_option maxRecDepth 100000 in
set_option maxHeartbeats 1000000 in
theorem levelOfType_any (k : Int) (v1 v2 : Value) (A : Option Addr) (n c : Nat) (v4 v5 : Value) (w : World) (hn : (n : Int) ≤ 9223372036854775807) :
    Calls Tryz.prog 60 #[.agg #[.int .i64 k, v1, v2, .slice A n c, v4, v5]] w fun e w' => e = .returned (.int .i64 (lvT k n)) ∧ Below w.heap.size w w' := by
  have HB := Lib.hid ((Below.refl w.heap.size w).alloc (Nat.le_refl _) (.cells #[.int .i64 k, v1, v2, .slice A n c, v4, v5] 28))
  obtain ⟨r, hr⟩ : ∃ r, r = lvT k n := ⟨_, rfl⟩
  rw [← hr]
  by_cases h5 : k = 5
  · have HR : Hid (r = 0) := Lib.hid (by rw [hr, lvT, if_pos h5])
    subst h5
    clear hr
    go_enter Tryz.func60, Tryz.ntmps60
    go_wp2_with fail
    go_ret
    exact ⟨by rw [HR.out]; rfl, HB.out⟩
  · have g5 : (k == 5) = false := beq_eq_false_iff_ne.2 h5
    by_cases h6 : k = 6
    · by_cases h0 : n = 0
      · have HR : Hid (r = 2) := Lib.hid (by rw [hr, lvT, if_neg h5, if_neg (by omega)])
        subst h6; subst h0
        clear hr
        go_enter Tryz.func60, Tryz.ntmps60
        go_wp2_with fail
        go_ret
        exact ⟨by rw [HR.out]; rfl, HB.out⟩
      · have HR : Hid (r = 1) := Lib.hid (by rw [hr, lvT, if_neg h5, if_pos ⟨h6, by omega⟩])
        subst h6
        clear hr
        go_enter Tryz.func60, Tryz.ntmps60
        go_wp2_with fail
        go_ret
        exact ⟨by rw [HR.out]; rfl, HB.out⟩
    · have HR : Hid (r = 2) := Lib.hid (by rw [hr, lvT, if_neg h5, if_neg (fun h => h6 h.1)])
      have g6 : (k == 6) = false := beq_eq_false_iff_ne.2 h6
      clear hr h5 h6
      go_enter Tryz.func60, Tryz.ntmps60
      go_wp2_with fail
      go_ret
      exact ⟨by rw [HR.out]; rfl, HB.out⟩
end Go.Proofs.YtbfojibhdadglaaGreatDoor
/- The printer: types where a level is asked for; types as arguments. -/
namespace Go.Proofs.YtbfojibhdadglaaGreatDoor
open Go.RowKit

def FullSays (e : Ty) : Prop := ∀ (B p x m : Nat) (lim : Int) (bs : Txt) (asked : Int) (cs : List Value) (w : World), Pr B p x m lim bs w → RepT (fun b => b < B) w e cs → bs.length + tot (atP asked e.lp) ≤ 140737488355328 →
  Calls Tryz.prog 18 #[.pointer (some ⟨p, 0, none⟩), .agg cs.toArray, .int .i64 asked] w (PrPost B p x m lim bs (atP asked e.lp) w)
def BareSays (e : Ty) : Prop := ∀ (B p x m : Nat) (lim : Int) (bs : Txt) (cs : List Value) (w : World), Pr B p x m lim bs w → RepT (fun b => b < B) w e cs → bs.length + tot (pcsT e) ≤ 140737488355328 →
  Calls Tryz.prog 61 #[.pointer (some ⟨p, 0, none⟩), .agg cs.toArray] w (PrPost B p x m lim bs (pcsT e) w)
theorem TyBx.fr {B p : Nat} {w w' : World} {g : Nat} {v0 v1 v2 v3 v4 v5 : Value} (h : TyBx w g v0 v1 v2 v3 v4 v5) (hf : FrP B p w w') (hne : g ≠ p) : TyBx w' g v0 v1 v2 v3 v4 v5 := hf.blk h (by decide) hne
theorem TParts.fr {B p : Nat} {w w' : World} {A : Option Addr} {l : List Ty} (h : TParts B w A l) (hf : FrP B p w w') : TParts B w' A l := fun h0 => by
  obtain ⟨b, off, e, hb, hlt, hc⟩ := h h0
  have k : ∀ o, w'.cell? ⟨b, o, none⟩ = w.cell? ⟨b, o, none⟩ := fun o => hf.same.cell (P := fun b => b < B) hb hlt o
  refine ⟨b, off, e, hb, Nat.lt_of_lt_of_le hlt hf.2.2, fun j e hj => ?_⟩
  obtain ⟨k0, n, s, A0, n0, c0, A1, n1, c1, tl, H⟩ := hc j e hj
  exact ⟨k0, n, s, A0, n0, c0, A1, n1, c1, tl, H.rep.keep hf.same, (k _).trans H.d0, (k _).trans H.d1, (k _).trans H.d2, (k _).trans H.d3, (k _).trans H.d4, (k _).trans H.d5⟩
theorem nth_lpT {l : List Ty} {i : Nat} {e : Ty} (h : l[i]? = some e) : nth (l.map Ty.lp) i = e.lp := by unfold nth; rw [List.getD_eq_getElem?_getD, List.getElem?_map, h]; rfl

set_option maxRecDepth 100000 in
set_option maxHeartbeats 4000000 in
theorem full_says (e : Ty) (HR : BareSays e) : FullSays e := by
  intro B p x m lim bs asked cs w hP hre hlen
  cases e with
  | mk k n s l ls tl =>
  have HRE := Lib.hid hre
  obtain ⟨Al, cl, Ar, cr, rfl, hf, _, _⟩ := hre
  have hl2 : (l.length : Int) ≤ 9223372036854775807 := by have := hf.hcl; unfold maxLen at this; omega
  have HRu : Hid (∀ (bs' : Txt) (w' : World), Pr B p x m lim bs' w' → Same (fun b => b < B) w w' → bs'.length + tot (pcsT (.mk k n s l ls tl)) ≤ 140737488355328 →
      Calls Tryz.prog 61 #[.pointer (some ⟨p, 0, none⟩), .agg (tyCells k n s Al l.length cl Ar ls.length cr tl).toArray] w' (PrPost B p x m lim bs' (pcsT (.mk k n s l ls tl)) w')) :=
    Lib.hid (fun bs' w' h1 h2 h3 => HR B p x m lim bs' _ w' h1 (HRE.out.keep h2) h3)
  obtain ⟨ps, hps⟩ : ∃ ps, ps = pcsT (.mk k n s l ls tl) := ⟨_, rfl⟩
  obtain ⟨lv, hlv⟩ : ∃ lv, lv = lvT k l.length := ⟨_, rfl⟩
  have hlp : (Ty.mk k n s l ls tl).lp = (lv, ps) := by rw [hps, hlv]; rfl
  rw [hlp] at hlen ⊢
  obtain ⟨S, hS⟩ : ∃ S, S = strB s := ⟨_, rfl⟩
  have HLv := Lib.hid (fun w => levelOfType_any k (.int .i64 n) (.string S) Al l.length cl (.slice Ar ls.length cr) (.int .i64 tl) w hl2)
  rw [← hlv] at HLv
  rw [← hps] at HRu
  unfold tyCells at HRu ⊢
  rw [← hS] at HRu ⊢
  obtain ⟨nl, hnl⟩ : ∃ q, q = l.length := ⟨_, rfl⟩
  obtain ⟨nr, hnr⟩ : ∃ q, q = ls.length := ⟨_, rfl⟩
  rw [← hnl, ← hnr] at HRu HLv ⊢
  have hgp : w.heap.size ≠ p := by have := hP.ltp; omega
  obtain ⟨W1, hW1⟩ : ∃ W1, w.alloc (.cells #[.int .i64 k, .int .i64 n, .string S, .slice Al nl cl, .slice Ar nr cr, .int .i64 tl] 28) = W1 := ⟨_, rfl⟩
  have HF1 : Hid (PrF B p x m lim bs w W1) := Lib.hid (by rw [← hW1]; exact (PrF.refl hP).below ((Below.refl _ _).alloc (Nat.le_refl _) _))
  have HE1 : Hid (TyBx W1 w.heap.size (.int .i64 k) (.int .i64 n) (.string S) (.slice Al nl cl) (.slice Ar nr cr) (.int .i64 tl)) := Lib.hid (by rw [← hW1]; exact TyBx.new w _ _ _ _ _ _)
  obtain ⟨a0, a1, a2, a3, a4, a5⟩ := HE1.out.c
  clear hf hps hlv hlp hS hnl hnr HRE HR hP
  by_cases hle : asked ≤ lv
  · have hd : decide (asked ≤ lv) = true := decide_eq_true hle
    have HL2 : Hid (bs.length + tot ps ≤ 140737488355328) := Lib.hid (by unfold atP at hlen; rwa [if_pos hle] at hlen)
    have HQ : Hid (atP asked (lv, ps) = ps) := Lib.hid (by unfold atP; exact if_pos hle)
    clear hlen hle
    go_enter Tryz.func18, Tryz.ntmps18
    go_wp2_with fail
    clear hW1
    refine (HLv.out _).mono ?_
    rintro e w2 ⟨rfl, hb⟩
    have HF2 := Lib.hid (HF1.out.below hb)
    have HE2 := Lib.hid (HE1.out.kept (grown_below hb none) (by simp))
    clear hb a0 a1 a2 a3 a4 a5
    obtain ⟨a0, a1, a2, a3, a4, a5⟩ := HE2.out.c
    go_wp2_with fail
    refine (HRu.out bs _ HF2.out.1 HF2.out.2.same HL2.out).mono ?_
    rintro e w3 ⟨rfl, hp⟩
    have HP3 := Lib.hid (HF2.out.then hp)
    clear hp a0 a1 a2 a3 a4 a5
    go_wp2_with fail
    go_end0
    exact ⟨rfl, by rw [HQ.out]; exact HP3.out⟩
  · have hd : decide (asked ≤ lv) = false := decide_eq_false hle
    have hQ : atP asked (lv, ps) = [[40]] ++ (ps ++ [[41]]) := by unfold atP; exact if_neg hle
    rw [hQ] at hlen
    have HT : Hid (tot ([[40]] ++ (ps ++ [[41]])) = tot [[40]] + (tot ps + tot [[41]])) := Lib.hid (by rw [tot_append, tot_append])
    have HL1 := Lib.hid (wrs_fit hlen HT.out)
    have HL2 := Lib.hid (wrs_le lim [[40]] bs hlen HT.out)
    have HL3 := Lib.hid (wrs_fit HL2.out rfl)
    have HL4 := Lib.hid (wrs_le lim ps _ HL2.out rfl)
    have HQ : Hid (wrs lim bs (atP asked (lv, ps)) = wrs lim (wrs lim (wrs lim bs [[40]]) ps) [[41]]) := Lib.hid (by rw [hQ, wrs_append, wrs_append])
    clear hlen hle hQ
    show Calls _ _ _ _ (fun e w' => e = .returned (.tuple #[]) ∧ PrF B p x m lim (wrs lim bs (atP asked (lv, ps))) w w')
    go_enter Tryz.func18, Tryz.ntmps18
    go_wp2_with fail
    clear hW1
    refine (HLv.out _).mono ?_
    rintro e w2 ⟨rfl, hb⟩
    have HF2 := Lib.hid (HF1.out.below hb)
    have HE2 := Lib.hid (HE1.out.kept (grown_below hb none) (by simp))
    clear hb a0 a1 a2 a3 a4 a5
    go_wp2_with fail
    refine (write_new [[40]] w2 HF2.out (by simp) HL1.out).mono ?_
    rintro e w3 ⟨rfl, hp3, hf3⟩
    have HP3 := Lib.hid hp3
    have HE3 := Lib.hid (HE2.out.fr hf3 hgp)
    clear hp3 hf3
    obtain ⟨a0, a1, a2, a3, a4, a5⟩ := HE3.out.c
    go_wp2_with fail
    refine (HRu.out _ _ HP3.out.1 HP3.out.2.same HL3.out).mono ?_
    rintro e w4 ⟨rfl, hp⟩
    have HP4 := Lib.hid (HP3.out.then hp)
    clear hp a0 a1 a2 a3 a4 a5
    go_wp2_with fail
    refine (write_new [[41]] w4 HP4.out (by simp) HL4.out).mono ?_
    rintro e w5 ⟨rfl, hp5, hf5⟩
    have HP5 := Lib.hid hp5
    clear hp5 hf5
    go_wp2_with fail
    go_end0
    exact ⟨rfl, by rw [HQ.out]; exact HP5.out⟩

theorem argsP_snoc (l : List LvP) (q : LvP) : argsP (l ++ [q]) = argsP l ++ ([[32]] ++ atP 2 q) := by unfold argsP; rw [List.flatMap_append]; simp
theorem argsP_prefix (l : List LvP) (k : Nat) : argsP (l.take k) <+: argsP l := by
  refine ⟨argsP (l.drop k), ?_⟩
  unfold argsP
  rw [← List.flatMap_append, List.take_append_drop]

set_option maxRecDepth 100000 in
set_option maxHeartbeats 4000000 in
theorem args_any (B p x m : Nat) (lim : Int) (bs : Txt) (A : Option Addr) (c : Nat) (l : List Ty) (w : World) (h : Pr B p x m lim bs w) (hS : ∀ e ∈ l, FullSays e) (hP : TParts B w A l) (hl : l.length ≤ maxLen) (hlen : bs.length + tot (argsP (l.map Ty.lp)) ≤ 140737488355328) :
    Calls Tryz.prog 106 #[.pointer (some ⟨p, 0, none⟩), .slice A l.length c] w fun e w' => e = .returned (.tuple #[]) ∧ PrF B p x m lim (wrs lim bs (argsP (l.map Ty.lp))) w w' := by
  have HP := Lib.hid h
  have HPa := Lib.hid hP
  have HLn := Lib.hid hlen
  have HS := Lib.hid hS
  obtain ⟨n, hnn⟩ : ∃ n, n = l.length := ⟨_, rfl⟩
  have HL := Lib.hid hnn
  unfold maxLen at hl
  rw [← hnn] at hl ⊢
  clear h hP hlen hS hnn
  go_enter Tryz.func106, Tryz.ntmps106
  go_wp2_with fail
  go_loopw [8] (fun i wr => ∃ k : Nat, k ≤ n ∧ i = .int .i64 (k : Int) ∧ Hid (PrF B p x m lim (wrs lim bs (argsP ((l.take k).map Ty.lp))) w wr)) (fun i _ => n - (intOf i).toNat)
  case atStart => exact ⟨0, Nat.zero_le _, rfl, Lib.hid ⟨HP.out, FrP.refl _ _ _⟩⟩
  case round =>
    obtain ⟨k, hk, rfl, hPF⟩ := hrel
    have i0 : (0 : Int) ≤ (k : Int) := by omega
    by_cases hkl : k < n
    · have hke : k < l.length := by rw [← HL.out]; exact hkl
      have i1 : (k : Int) < (n : Int) := by omega
      obtain ⟨e, he⟩ : ∃ e, e = l[k] := ⟨_, rfl⟩
      have HEl : Hid (l[k]? = some e) := Lib.hid (by rw [he]; exact List.getElem?_eq_getElem hke)
      have HE := Lib.hid (HS.out e (by rw [he]; exact List.getElem_mem hke))
      have HTk : Hid (argsP ((l.take (k + 1)).map Ty.lp) = argsP ((l.take k).map Ty.lp) ++ ([[32]] ++ atP 2 e.lp)) := Lib.hid (by
        rw [take_succ_of hke, List.map_append, List.map_cons, List.map_nil, argsP_snoc, he])
      have HB : Hid ((wrs lim bs (argsP ((l.take k).map Ty.lp))).length + (tot [[32]] + tot (atP 2 e.lp)) ≤ 140737488355328) := Lib.hid (by
        have h1 := wrs_len lim (argsP ((l.take k).map Ty.lp)) bs
        have h2 := tot_prefix (argsP_prefix (l.map Ty.lp) (k + 1))
        rw [← List.map_take, HTk.out, tot_append, tot_append] at h2
        have := HLn.out
        omega)
      obtain ⟨b, off, rfl⟩ := HPa.out.addr (by omega)
      obtain ⟨bs1, hbs1⟩ : ∃ b, b = wrs lim bs (argsP ((l.take k).map Ty.lp)) := ⟨_, rfl⟩
      have HT2 : Hid (wrs lim bs (argsP ((l.take (k + 1)).map Ty.lp)) = wrs lim (wrs lim bs1 [[32]]) (atP 2 e.lp)) := Lib.hid (by rw [HTk.out, wrs_append, wrs_append, hbs1])
      rw [← hbs1] at hPF HB
      have HL1 := Lib.hid (wrs_fit HB.out rfl)
      have HL2 := Lib.hid (wrs_le lim [[32]] _ HB.out rfl)
      obtain ⟨hb2, k0, n0, s0, B0, q0, r0, B1, q1, r1, t0, hc⟩ := (HPa.out.fr hPF.out.2).at HEl.out
      obtain ⟨W1, hW1⟩ : ∃ W1, wr.alloc (.cells #[.int .i64 k0, .int .i64 n0, .string s0, .slice B0 q0 r0, .slice B1 q1 r1, .int .i64 t0] 28) = W1 := ⟨_, rfl⟩
      have HF1 : Hid (PrF B p x m lim bs1 w W1) := Lib.hid (by rw [← hW1]; exact hPF.out.below ((Below.refl _ _).alloc (Nat.le_refl _) _))
      have HE1 : Hid (TyBx W1 wr.heap.size (.int .i64 k0) (.int .i64 n0) (.string s0) (.slice B0 q0 r0) (.slice B1 q1 r1) (.int .i64 t0)) := Lib.hid (by rw [← hW1]; exact TyBx.new wr _ _ _ _ _ _)
      have HRe : Hid (RepT (fun b => b < B) W1 e [.int .i64 k0, .int .i64 n0, .string s0, .slice B0 q0 r0, .slice B1 q1 r1, .int .i64 t0]) := Lib.hid (by rw [← hW1]; exact hc.rep.keep (Same.of_grown (World.grownBy_alloc wr _ none) (fun _ _ => by simp)))
      have hgp : wr.heap.size ≠ p := by have := hPF.out.1.ltp; omega
      have d0 := hc.d0
      have d1 := hc.d1
      have d2 := hc.d2
      have d3 := hc.d3
      have d4 := hc.d4
      have d5 := hc.d5
      clear hc hbs1 he
      go_wp2_with fail
      clear hW1
      refine (write_new [[32]] W1 HF1.out (by simp) HL1.out).mono ?_
      rintro e' w2 ⟨rfl, hp2, hf2⟩
      have HP2 := Lib.hid hp2
      have HE2 := Lib.hid (HE1.out.fr hf2 hgp)
      have HC := Lib.hid (HE.out B p x m lim _ 2 _ w2 hp2.1 (HRe.out.keep hf2.same) HL2.out)
      clear hp2 hf2 d0 d1 d2 d3 d4 d5
      obtain ⟨g0, g1, g2, g3, g4, g5⟩ := HE2.out.c
      go_wp2_with fail
      refine HC.out.mono ?_
      rintro e' w3 ⟨rfl, hp3⟩
      have HP3 : Hid (PrF B p x m lim (wrs lim bs (argsP ((l.take (k + 1)).map Ty.lp))) w w3) := Lib.hid (by rw [HT2.out]; exact HP2.out.then hp3)
      clear hp3 g0 g1 g2 g3 g4 g5 HC
      go_wp2_with fail
      go_roundw
      case rel => exact ⟨k + 1, by omega, by go_num, HP3⟩
      case measure => simp [intOf]; omega
    · obtain rfl : k = n := by omega
      have HE : Hid (PrF B p x m lim (wrs lim bs (argsP (l.map Ty.lp))) w wr) := Lib.hid (by have := hPF.out; rwa [HL.out, List.take_length] at this)
      go_wp2_with fail
      go_end0
      exact ⟨rfl, HE.out⟩
end Go.Proofs.YtbfojibhdadglaaGreatDoor
/- The printer: function types; types without parentheses. -/
namespace Go.Proofs.YtbfojibhdadglaaGreatDoor
open Go.RowKit

def midP (ls : List (Txt × Int)) (tl : Int) : List Txt := if 0 < ls.length ∨ tl ≠ -1 then rowP ls tl ++ [[32]] else []

set_option maxRecDepth 100000 in
set_option maxHeartbeats 8000000 in
theorem function_any (B p x m : Nat) (lim : Int) (bs : Txt) (k n : Int) (s : ByteArray) (Al : Option Addr) (cl : Nat) (Ar : Option Addr) (cr : Nat) (l : List Ty) (ls : List (Txt × Int)) (tl : Int) (w : World) (hP : Pr B p x m lim bs w) (hS : ∀ e ∈ l, FullSays e) (hl : TParts B w Al l) (hls : LabsAt (fun b => b < B) w Ar ls)
    (hln : 2 ≤ l.length) (_ : l.length ≤ maxLen) (hlr : ls.length ≤ maxLen) (hok : ∀ y ∈ ls, okN y.2) (htl : okN tl) (hlen : bs.length + tot (atP 1 (nth (l.map Ty.lp) 0) ++ ([[32, 45, 62, 32]] ++ (midP ls tl ++ atP 0 (nth (l.map Ty.lp) 1)))) ≤ 140737488355328) :
    Calls Tryz.prog 105 #[.pointer (some ⟨p, 0, none⟩), .agg #[.int .i64 k, .int .i64 n, .string s, .slice Al l.length cl, .slice Ar ls.length cr, .int .i64 tl]] w fun e w' => e = .returned (.tuple #[]) ∧ PrF B p x m lim (wrs lim bs (atP 1 (nth (l.map Ty.lp) 0) ++ ([[32, 45, 62, 32]] ++ (midP ls tl ++ atP 0 (nth (l.map Ty.lp) 1))))) w w' := by
  obtain ⟨x0, hx0⟩ : ∃ e, l[0]? = some e := ⟨_, List.getElem?_eq_getElem (by omega)⟩
  obtain ⟨x1, hx1⟩ : ∃ e, l[1]? = some e := ⟨_, List.getElem?_eq_getElem (by omega)⟩
  rw [nth_lpT hx0, nth_lpT hx1] at hlen ⊢
  have HT : Hid (tot (atP 1 x0.lp ++ ([[32, 45, 62, 32]] ++ (midP ls tl ++ atP 0 x1.lp))) = tot (atP 1 x0.lp) + (tot [[32, 45, 62, 32]] + (tot (midP ls tl) + tot (atP 0 x1.lp)))) := Lib.hid (by rw [tot_append, tot_append, tot_append])
  have HL1 := Lib.hid (wrs_fit hlen HT.out)
  have HL2 := Lib.hid (wrs_le lim (atP 1 x0.lp) bs hlen HT.out)
  have HL3 := Lib.hid (wrs_fit HL2.out rfl)
  have HL4 := Lib.hid (wrs_le lim [[32, 45, 62, 32]] _ HL2.out rfl)
  have HL5 := Lib.hid (wrs_fit HL4.out rfl)
  have HL6 := Lib.hid (wrs_le lim (midP ls tl) _ HL4.out rfl)
  have HQ : Hid (wrs lim bs (atP 1 x0.lp ++ ([[32, 45, 62, 32]] ++ (midP ls tl ++ atP 0 x1.lp))) = wrs lim (wrs lim (wrs lim (wrs lim bs (atP 1 x0.lp)) [[32, 45, 62, 32]]) (midP ls tl)) (atP 0 x1.lp)) := Lib.hid (by rw [wrs_append, wrs_append, wrs_append])
  obtain ⟨psx, hpsx⟩ : ∃ q, q = wrs lim bs (atP 1 x0.lp ++ ([[32, 45, 62, 32]] ++ (midP ls tl ++ atP 0 x1.lp))) := ⟨_, rfl⟩
  rw [← hpsx] at HQ ⊢
  obtain ⟨bs2, hb2⟩ : ∃ q, q = wrs lim bs (atP 1 x0.lp) := ⟨_, rfl⟩
  rw [← hb2] at HQ HL3 HL4 HL5 HL6
  have HB2 := Lib.hid hb2
  obtain ⟨bs3, hb3⟩ : ∃ q, q = wrs lim bs2 [[32, 45, 62, 32]] := ⟨_, rfl⟩
  rw [← hb3] at HQ HL5 HL6
  have HB3 := Lib.hid hb3
  have HRow := Lib.hid (fun (bs' : Txt) (w' : World) (h1 : PrF B p x m lim bs' w w') h3 => row_any B p x m lim bs' Ar cr ls tl w' h1.1 (hls.keep h1.2.same) hlr hok htl h3)
  obtain ⟨nl, hnl⟩ : ∃ q, q = l.length := ⟨_, rfl⟩
  obtain ⟨nr, hnr⟩ : ∃ q, q = ls.length := ⟨_, rfl⟩
  have i0 : (0 : Int) < (nl : Int) := by omega
  have i1 : (1 : Int) < (nl : Int) := by omega
  have i2 : (nr : Int) ≤ 9223372036854775807 := by unfold maxLen at hlr; omega
  have HMid : Hid (midP ls tl = if 0 < nr ∨ tl ≠ -1 then rowP ls tl ++ [[32]] else []) := Lib.hid (by rw [hnr]; rfl)
  have HPa := Lib.hid hl
  obtain ⟨b, off, rfl⟩ := hl.addr (by omega)
  rw [← hnl, ← hnr]
  rw [← hnr] at HRow
  obtain ⟨W1, hW1⟩ : ∃ W1, w.alloc (.cells #[.int .i64 k, .int .i64 n, .string s, .slice (some ⟨b, off, none⟩) nl cl, .slice Ar nr cr, .int .i64 tl] 28) = W1 := ⟨_, rfl⟩
  have HF1 : Hid (PrF B p x m lim bs w W1) := Lib.hid (by rw [← hW1]; exact (PrF.refl hP).below ((Below.refl _ _).alloc (Nat.le_refl _) _))
  have HE1 : Hid (TyBx W1 w.heap.size (.int .i64 k) (.int .i64 n) (.string s) (.slice (some ⟨b, off, none⟩) nl cl) (.slice Ar nr cr) (.int .i64 tl)) := Lib.hid (by rw [← hW1]; exact TyBx.new w _ _ _ _ _ _)
  have hgp : w.heap.size ≠ p := by have := hP.ltp; omega
  obtain ⟨a0, a1, a2, a3, a4, a5⟩ := HE1.out.c
  obtain ⟨hb, k0, n0, s0, B0, q0, r0, B1, q1, r1, t0, hc⟩ := (HPa.out.fr HF1.out.2).at hx0
  have HX0 := Lib.hid (hS x0 (List.mem_of_getElem? hx0) B p x m lim bs 1 _ W1 HF1.out.1 hc.rep HL1.out)
  have HS1 := Lib.hid (hS x1 (List.mem_of_getElem? hx1))
  have HX1 := Lib.hid hx1
  have d0 := hc.d0
  have d1 := hc.d1
  have d2 := hc.d2
  have d3 := hc.d3
  have d4 := hc.d4
  have d5 := hc.d5
  simp only [Nat.zero_mul, Nat.add_zero] at d0 d1 d2 d3 d4 d5
  clear hP hS hl hls hln hlr hok htl hlen hx0 hx1 hpsx hnl hnr hc hb2 hb3
  by_cases hm : 0 < nr ∨ tl ≠ -1
  · have HM2 : Hid (midP ls tl = rowP ls tl ++ [[32]]) := Lib.hid (by rw [HMid.out, if_pos hm])
    rw [HM2.out] at HL5 HL6
    rw [HM2.out, wrs_append] at HQ
    have HL5b : Hid (bs3.length + (tot (rowP ls tl) + tot [[32]]) ≤ 140737488355328) := Lib.hid (by have := HL5.out; rw [tot_append] at this; exact this)
    have HL7 := Lib.hid (wrs_fit HL5b.out rfl)
    have HL8 := Lib.hid (wrs_le lim (rowP ls tl) _ HL5b.out rfl)
    have HL9 : Hid ((wrs lim (wrs lim bs3 (rowP ls tl)) [[32]]).length + tot (atP 0 x1.lp) ≤ 140737488355328) := Lib.hid (by rw [← wrs_append]; exact HL6.out)
    obtain ⟨bs4, hb4⟩ : ∃ q, q = wrs lim bs3 (rowP ls tl) := ⟨_, rfl⟩
    rw [← hb4] at HQ HL8 HL9
    have HB4 := Lib.hid hb4
    obtain ⟨bs5, hb5⟩ : ∃ q, q = wrs lim bs4 [[32]] := ⟨_, rfl⟩
    rw [← hb5] at HQ HL9
    have HB5 := Lib.hid hb5
    clear hb4 hb5 HL5 HL6
    by_cases h0 : nr = 0
    · have htb : (tl != -1) = true := by simpa using hm.resolve_left (by omega)
      subst h0
      clear hm
      go_enter Tryz.func105, Tryz.ntmps105
      go_wp2_with fail
      clear hW1
      refine HX0.out.mono ?_
      rintro e w2 ⟨rfl, hp2⟩
      have HP2 : Hid (PrF B p x m lim bs2 w w2) := Lib.hid (by rw [HB2.out]; exact HF1.out.then hp2)
      have HE2 := Lib.hid (HE1.out.fr hp2.2 hgp)
      clear hp2 d0 d1 d2 d3 d4 d5 a0 a1 a2 a3 a4 a5 HX0
      go_wp2_with fail
      refine (write_new [[32, 45, 62, 32]] w2 HP2.out (by simp) HL3.out).mono ?_
      rintro e w3 ⟨rfl, hp3, hf3⟩
      have HP3 : Hid (PrF B p x m lim bs3 w w3) := Lib.hid (by rw [HB3.out]; exact hp3)
      have HE3 := Lib.hid (HE2.out.fr hf3 hgp)
      clear hp3 hf3
      obtain ⟨a0, a1, a2, a3, a4, a5⟩ := HE3.out.c
      go_wp2_with fail
      refine (HRow.out _ w3 HP3.out HL7.out).mono ?_
      rintro e w4 ⟨rfl, hp4⟩
      have HP4 : Hid (PrF B p x m lim bs4 w w4) := Lib.hid (by rw [HB4.out]; exact HP3.out.then hp4)
      have HE4 := Lib.hid (HE3.out.fr hp4.2 hgp)
      clear hp4 a0 a1 a2 a3 a4 a5
      go_wp2_with fail
      refine (write_new [[32]] w4 HP4.out (by simp) HL8.out).mono ?_
      rintro e w5 ⟨rfl, hp5, hf5⟩
      have HP5 : Hid (PrF B p x m lim bs5 w w5) := Lib.hid (by rw [HB5.out]; exact hp5)
      have HE5 := Lib.hid (HE4.out.fr hf5 hgp)
      clear hp5 hf5
      obtain ⟨a0, a1, a2, a3, a4, a5⟩ := HE5.out.c
      obtain ⟨hb1, k0, n0, s0, B0, q0, r0, B1, q1, r1, t0, hc⟩ := (HPa.out.fr HP5.out.2).at HX1.out
      have HC := Lib.hid (HS1.out B p x m lim _ 0 _ w5 HP5.out.1 hc.rep HL9.out)
      have d0 := hc.d0
      have d1 := hc.d1
      have d2 := hc.d2
      have d3 := hc.d3
      have d4 := hc.d4
      have d5 := hc.d5
      simp only [Nat.one_mul] at d0 d1 d2 d3 d4 d5
      clear hc
      go_wp2_with fail
      refine HC.out.mono ?_
      rintro e w6 ⟨rfl, hp6⟩
      have HP6 := Lib.hid (HP5.out.then hp6)
      clear hp6 d0 d1 d2 d3 d4 d5 a0 a1 a2 a3 a4 a5
      go_wp2_with fail
      go_end0
      exact ⟨rfl, by rw [HQ.out]; exact HP6.out⟩
    · clear hm
      go_enter Tryz.func105, Tryz.ntmps105
      go_wp2_with fail
      clear hW1
      refine HX0.out.mono ?_
      rintro e w2 ⟨rfl, hp2⟩
      have HP2 : Hid (PrF B p x m lim bs2 w w2) := Lib.hid (by rw [HB2.out]; exact HF1.out.then hp2)
      have HE2 := Lib.hid (HE1.out.fr hp2.2 hgp)
      clear hp2 d0 d1 d2 d3 d4 d5 a0 a1 a2 a3 a4 a5 HX0
      go_wp2_with fail
      refine (write_new [[32, 45, 62, 32]] w2 HP2.out (by simp) HL3.out).mono ?_
      rintro e w3 ⟨rfl, hp3, hf3⟩
      have HP3 : Hid (PrF B p x m lim bs3 w w3) := Lib.hid (by rw [HB3.out]; exact hp3)
      have HE3 := Lib.hid (HE2.out.fr hf3 hgp)
      clear hp3 hf3
      obtain ⟨a0, a1, a2, a3, a4, a5⟩ := HE3.out.c
      go_wp2_with fail
      refine (HRow.out _ w3 HP3.out HL7.out).mono ?_
      rintro e w4 ⟨rfl, hp4⟩
      have HP4 : Hid (PrF B p x m lim bs4 w w4) := Lib.hid (by rw [HB4.out]; exact HP3.out.then hp4)
      have HE4 := Lib.hid (HE3.out.fr hp4.2 hgp)
      clear hp4 a0 a1 a2 a3 a4 a5
      go_wp2_with fail
      refine (write_new [[32]] w4 HP4.out (by simp) HL8.out).mono ?_
      rintro e w5 ⟨rfl, hp5, hf5⟩
      have HP5 : Hid (PrF B p x m lim bs5 w w5) := Lib.hid (by rw [HB5.out]; exact hp5)
      have HE5 := Lib.hid (HE4.out.fr hf5 hgp)
      clear hp5 hf5
      obtain ⟨a0, a1, a2, a3, a4, a5⟩ := HE5.out.c
      obtain ⟨hb1, k0, n0, s0, B0, q0, r0, B1, q1, r1, t0, hc⟩ := (HPa.out.fr HP5.out.2).at HX1.out
      have HC := Lib.hid (HS1.out B p x m lim _ 0 _ w5 HP5.out.1 hc.rep HL9.out)
      have d0 := hc.d0
      have d1 := hc.d1
      have d2 := hc.d2
      have d3 := hc.d3
      have d4 := hc.d4
      have d5 := hc.d5
      simp only [Nat.one_mul] at d0 d1 d2 d3 d4 d5
      clear hc
      go_wp2_with fail
      refine HC.out.mono ?_
      rintro e w6 ⟨rfl, hp6⟩
      have HP6 := Lib.hid (HP5.out.then hp6)
      clear hp6 d0 d1 d2 d3 d4 d5 a0 a1 a2 a3 a4 a5
      go_wp2_with fail
      go_end0
      exact ⟨rfl, by rw [HQ.out]; exact HP6.out⟩
  · have HM2 : Hid (midP ls tl = []) := Lib.hid (by rw [HMid.out, if_neg hm])
    obtain rfl : nr = 0 := by omega
    obtain rfl : tl = -1 := by omega
    rw [HM2.out] at HL6 HQ
    clear hm HL5
    go_enter Tryz.func105, Tryz.ntmps105
    go_wp2_with fail
    clear hW1
    refine HX0.out.mono ?_
    rintro e w2 ⟨rfl, hp2⟩
    have HP2 : Hid (PrF B p x m lim bs2 w w2) := Lib.hid (by rw [HB2.out]; exact HF1.out.then hp2)
    have HE2 := Lib.hid (HE1.out.fr hp2.2 hgp)
    clear hp2 d0 d1 d2 d3 d4 d5 a0 a1 a2 a3 a4 a5 HX0
    go_wp2_with fail
    refine (write_new [[32, 45, 62, 32]] w2 HP2.out (by simp) HL3.out).mono ?_
    rintro e w3 ⟨rfl, hp3, hf3⟩
    have HP3 : Hid (PrF B p x m lim bs3 w w3) := Lib.hid (by rw [HB3.out]; exact hp3)
    have HE3 := Lib.hid (HE2.out.fr hf3 hgp)
    clear hp3 hf3
    obtain ⟨a0, a1, a2, a3, a4, a5⟩ := HE3.out.c
    obtain ⟨hb1, k0, n0, s0, B0, q0, r0, B1, q1, r1, t0, hc⟩ := (HPa.out.fr HP3.out.2).at HX1.out
    have HC := Lib.hid (HS1.out B p x m lim _ 0 _ w3 HP3.out.1 hc.rep HL6.out)
    have d0 := hc.d0
    have d1 := hc.d1
    have d2 := hc.d2
    have d3 := hc.d3
    have d4 := hc.d4
    have d5 := hc.d5
    simp only [Nat.one_mul] at d0 d1 d2 d3 d4 d5
    clear hc
    go_wp2_with fail
    refine HC.out.mono ?_
    rintro e w6 ⟨rfl, hp6⟩
    have HP6 := Lib.hid (HP3.out.then hp6)
    clear hp6 d0 d1 d2 d3 d4 d5 a0 a1 a2 a3 a4 a5
    go_wp2_with fail
    go_end0
    exact ⟨rfl, by rw [HQ.out]; exact HP6.out⟩
end Go.Proofs.YtbfojibhdadglaaGreatDoor
/- The printer: every type. -/
namespace Go.Proofs.YtbfojibhdadglaaGreatDoor
open Go.RowKit

mutual
/-- function types have both of their parts -/
def fun2 : Ty → Bool
  | .mk k _ _ l _ _ => (decide (k ≠ 5) || decide (2 ≤ l.length)) && fun2L l
def fun2L : List Ty → Bool
  | [] => true
  | x :: r => fun2 x && fun2L r
end
theorem fun2L_mem : ∀ {l : List Ty} {x : Ty}, fun2L l = true → x ∈ l → fun2 x = true
  | y :: r, x, h, hx => by
    rw [fun2L, Bool.and_eq_true] at h
    rcases List.mem_cons.1 hx with rfl | hx
    · exact h.1
    · exact fun2L_mem h.2 hx

set_option maxRecDepth 100000 in
set_option maxHeartbeats 8000000 in
theorem bare_all : ∀ e, fun2 e = true → BareSays e := by
  refine Ty.ind fun e ih hf2 B p x m lim bs cs w hP hre hlen => ?_
  cases e with
  | mk k n s l ls tl =>
  rw [fun2, Bool.and_eq_true] at hf2
  have hS : ∀ e ∈ l, FullSays e := fun e he => full_says e (ih e he (fun2L_mem hf2.2 he))
  obtain ⟨Al, cl, Ar, cr, rfl, hf, hls, hl⟩ := hre
  have hPa : TParts B w Al l := tparts_of (by
    intro h0
    obtain ⟨b, off, e, hp, hlt, hr⟩ := hl h0
    exact ⟨b, off, e, hp, hlt, hr⟩)
  have hlm : l.length ≤ maxLen := Nat.le_trans hf.hcl.1 hf.hcl.2
  have hlr : ls.length ≤ maxLen := Nat.le_trans hf.hcr.1 hf.hcr.2
  have hok : ∀ y ∈ ls, okN y.2 := fun y hy => (hf.hls y hy).2
  rw [pcsT_mk] at hlen ⊢
  show Calls Tryz.prog 61 #[.pointer (some ⟨p, 0, none⟩), .agg #[.int .i64 k, .int .i64 n, .string (strB s), .slice Al l.length cl, .slice Ar ls.length cr, .int .i64 tl]] w (fun e w' => e = .returned (.tuple #[]) ∧ PrF B p x m lim (wrs lim bs (tyP k n s (l.map Ty.lp) ls tl)) w w')
  have hgp : w.heap.size ≠ p := by have := hP.ltp; omega
  obtain ⟨W1, hW1⟩ : ∃ W1, w.alloc (.cells #[.int .i64 k, .int .i64 n, .string (strB s), .slice Al l.length cl, .slice Ar ls.length cr, .int .i64 tl] 28) = W1 := ⟨_, rfl⟩
  have HF1 : Hid (PrF B p x m lim bs w W1) := Lib.hid (by rw [← hW1]; exact (PrF.refl hP).below ((Below.refl _ _).alloc (Nat.le_refl _) _))
  have HE1 : Hid (TyBx W1 w.heap.size (.int .i64 k) (.int .i64 n) (.string (strB s)) (.slice Al l.length cl) (.slice Ar ls.length cr) (.int .i64 tl)) := Lib.hid (by rw [← hW1]; exact TyBx.new w _ _ _ _ _ _)
  obtain ⟨a0, a1, a2, a3, a4, a5⟩ := HE1.out.c
  have HD := Lib.hid (fun w' hT => Digits_any n w' hf.hn hT)
  by_cases h0 : k = 0
  · have hq : tyP k n s (l.map Ty.lp) ls tl = [[116], Lib.itoa n] := by unfold tyP; rw [if_pos h0]
    rw [hq] at hlen ⊢
    subst h0
    clear hq hf hls hl hPa hlm hlr hok hS ih hf2 hP
    go_enter Tryz.func61, Tryz.ntmps61
    go_wp2_with fail
    clear hW1
    refine (HD.out _ HF1.out.1.2.2.2.2.2.2.1).mono ?_
    rintro e w3 ⟨rfl, hb⟩
    have HF3 := Lib.hid (HF1.out.below hb)
    clear hb HD a0 a1 a2 a3 a4 a5
    go_wp2_with fail
    refine (write_new [[116], Lib.itoa n] w3 HF3.out (by simp) hlen).mono ?_
    rintro e w2 ⟨rfl, hp2, hf2⟩
    have HR := Lib.hid hp2
    clear hp2 hf2
    go_wp2_with fail
    go_end0
    exact ⟨rfl, HR.out⟩
  have g0 : (k == 0) = false := beq_eq_false_iff_ne.2 h0
  by_cases h2 : k = 2
  · have hq : tyP k n s (l.map Ty.lp) ls tl = [[73, 110, 116]] := by unfold tyP; rw [if_neg h0, if_pos h2]
    rw [hq] at hlen ⊢
    subst h2
    clear hq hf hls hl hPa hlm hlr hok hS ih hf2 hP HD
    go_enter Tryz.func61, Tryz.ntmps61
    go_wp2_with fail
    clear hW1
    refine (write_new [[73, 110, 116]] W1 HF1.out (by simp) hlen).mono ?_
    rintro e w2 ⟨rfl, hp2, hf2⟩
    have HR := Lib.hid hp2
    clear hp2 hf2 a0 a1 a2 a3 a4 a5
    go_wp2_with fail
    go_end0
    exact ⟨rfl, HR.out⟩
  have g2 : (k == 2) = false := beq_eq_false_iff_ne.2 h2
  by_cases h3 : k = 3
  · have hq : tyP k n s (l.map Ty.lp) ls tl = [[66, 111, 111, 108]] := by unfold tyP; rw [if_neg h0, if_neg h2, if_pos h3]
    rw [hq] at hlen ⊢
    subst h3
    clear hq hf hls hl hPa hlm hlr hok hS ih hf2 hP HD
    go_enter Tryz.func61, Tryz.ntmps61
    go_wp2_with fail
    clear hW1
    refine (write_new [[66, 111, 111, 108]] W1 HF1.out (by simp) hlen).mono ?_
    rintro e w2 ⟨rfl, hp2, hf2⟩
    have HR := Lib.hid hp2
    clear hp2 hf2 a0 a1 a2 a3 a4 a5
    go_wp2_with fail
    go_end0
    exact ⟨rfl, HR.out⟩
  have g3 : (k == 3) = false := beq_eq_false_iff_ne.2 h3
  by_cases h4 : k = 4
  · have hq : tyP k n s (l.map Ty.lp) ls tl = [[85, 110, 105, 116]] := by unfold tyP; rw [if_neg h0, if_neg h2, if_neg h3, if_pos h4]
    rw [hq] at hlen ⊢
    subst h4
    clear hq hf hls hl hPa hlm hlr hok hS ih hf2 hP HD
    go_enter Tryz.func61, Tryz.ntmps61
    go_wp2_with fail
    clear hW1
    refine (write_new [[85, 110, 105, 116]] W1 HF1.out (by simp) hlen).mono ?_
    rintro e w2 ⟨rfl, hp2, hf2⟩
    have HR := Lib.hid hp2
    clear hp2 hf2 a0 a1 a2 a3 a4 a5
    go_wp2_with fail
    go_end0
    exact ⟨rfl, HR.out⟩
  have g4 : (k == 4) = false := beq_eq_false_iff_ne.2 h4
  by_cases h5 : k = 5
  · have hq : tyP k n s (l.map Ty.lp) ls tl = atP 1 (nth (l.map Ty.lp) 0) ++ ([[32, 45, 62, 32]] ++ (midP ls tl ++ atP 0 (nth (l.map Ty.lp) 1))) := by unfold tyP; rw [if_neg h0, if_neg h2, if_neg h3, if_neg h4, if_pos h5]; rfl
    rw [hq] at hlen ⊢
    have hln : 2 ≤ l.length := by
      have := hf2.1
      rw [h5] at this
      simpa using this
    have HX := Lib.hid (function_any B p x m lim bs k n (strB s) Al cl Ar cr l ls tl W1 HF1.out.1 hS (hPa.fr HF1.out.2) (hls.keep HF1.out.2.same) hln hlm hlr hok hf.htl hlen)
    subst h5
    obtain ⟨Z, hZ⟩ : ∃ Z, Z = wrs lim bs (atP 1 (nth (l.map Ty.lp) 0) ++ ([[32, 45, 62, 32]] ++ (midP ls tl ++ atP 0 (nth (l.map Ty.lp) 1)))) := ⟨_, rfl⟩
    rw [← hZ] at HX ⊢
    clear hq hf hls hl hPa hlm hlr hok hS ih hf2 hP HD hln hZ hlen
    go_enter Tryz.func61, Tryz.ntmps61
    go_wp2_with fail
    clear hW1
    refine HX.out.mono ?_
    rintro e w2 ⟨rfl, hp2⟩
    have HR := Lib.hid (HF1.out.then hp2)
    clear hp2 a0 a1 a2 a3 a4 a5
    go_wp2_with fail
    go_end0
    exact ⟨rfl, HR.out⟩
  · have g5 : (k == 5) = false := beq_eq_false_iff_ne.2 h5
    have hq : tyP k n s (l.map Ty.lp) ls tl = [s] ++ argsP (l.map Ty.lp) := by unfold tyP; rw [if_neg h0, if_neg h2, if_neg h3, if_neg h4, if_neg h5]
    rw [hq] at hlen ⊢
    have HT : Hid (tot ([s] ++ argsP (l.map Ty.lp)) = tot [s] + tot (argsP (l.map Ty.lp))) := Lib.hid (by rw [tot_append])
    have HL1 := Lib.hid (wrs_fit hlen HT.out)
    have HL2 := Lib.hid (wrs_le lim [s] bs hlen HT.out)
    have HX := Lib.hid (fun (bs' : Txt) (w' : World) (h1 : PrF B p x m lim bs' w w') h3 => args_any B p x m lim bs' Al cl l w' h1.1 hS (hPa.fr h1.2) hlm h3)
    have HQ : Hid (wrs lim bs ([s] ++ argsP (l.map Ty.lp)) = wrs lim (wrs lim bs [s]) (argsP (l.map Ty.lp))) := Lib.hid (by rw [wrs_append])
    obtain ⟨Z, hZ⟩ : ∃ Z, Z = wrs lim bs ([s] ++ argsP (l.map Ty.lp)) := ⟨_, rfl⟩
    rw [← hZ] at HQ ⊢
    clear hq hf hls hl hPa hlm hlr hok hS ih hf2 hP HD hZ hlen h0 h2 h3 h4 h5
    go_enter Tryz.func61, Tryz.ntmps61
    go_wp2_with fail
    clear hW1
    refine (write_new [s] W1 HF1.out (by simp) HL1.out).mono ?_
    rintro e w2 ⟨rfl, hp2, hf2⟩
    have HP2 := Lib.hid hp2
    have HE2 := Lib.hid (HE1.out.fr hf2 hgp)
    clear hp2 hf2 a0 a1 a2 a3 a4 a5
    obtain ⟨a0, a1, a2, a3, a4, a5⟩ := HE2.out.c
    go_wp2_with fail
    refine (HX.out _ w2 HP2.out HL2.out).mono ?_
    rintro e w3 ⟨rfl, hp3⟩
    have HR := Lib.hid (HP2.out.then hp3)
    clear hp3 a0 a1 a2 a3 a4 a5
    go_wp2_with fail
    go_end0
    exact ⟨rfl, by rw [HQ.out]; exact HR.out⟩
end Go.Proofs.YtbfojibhdadglaaGreatDoor
/- ShowType of the program. -/
namespace Go.Proofs.YtbfojibhdadglaaGreatDoor
open Go.RowKit

/-- a node that is well formed -/
structure NodeT (k n : Int) (s : Txt) (l : List Ty) (ls : List (Txt × Int)) (tl : Int) : Prop where
  hk : 0 ≤ k ∧ k ≤ 6
  hn : 0 ≤ n ∧ n ≤ 999999999
  hs : s.length ≤ 12
  hne : k = 1 ∨ k = 6 → s ≠ []
  hl : (k = 5 → l.length = 2) ∧ l.length ≤ 4
  hls : ∀ x ∈ ls, x.1.length ≤ 12 ∧ 0 ≤ x.2 ∧ x.2 ≤ 999999999
  htl : -1 ≤ tl ∧ tl ≤ 999999999
  h5 : k ≠ 5 → ls = [] ∧ tl = 0
theorem isNm_small {a : Int} {s : Txt} (h : isNm a s = true) : s.length ≤ 12 := by
  cases s with
  | nil => simp
  | cons c r => simp [isNm] at h; simp; omega
theorem labsErr_zero : ∀ {l : List (Txt × Int)}, labsErr l = 0 → ∀ x ∈ l, labErr x = 0
  | y :: r, h, x, hx => by
    rw [labsErr] at h
    by_cases h0 : labErr y = 0
    · rw [if_pos h0] at h
      rcases List.mem_cons.1 hx with rfl | hx
      · exact h0
      · exact labsErr_zero h x hx
    · rw [if_neg h0] at h; exact absurd h h0
theorem labErr_zero {x : Txt × Int} (h : labErr x = 0) : x.1.length ≤ 12 ∧ 0 ≤ x.2 ∧ x.2 ≤ 999999999 := by
  unfold labErr at h
  split at h
  · cases h
  · rename_i h1
    split at h
    · cases h
    · rename_i h2
      simp at h2
      exact ⟨isNm_small (by simpa using h1), by omega, by omega⟩
theorem nodeT_of {k n : Int} {s : Txt} {l : List Ty} {ls : List (Txt × Int)} {tl : Int} (h : tyNode k n s l.length ls tl = 0) : NodeT k n s l ls tl := by
  unfold tyNode at h
  split at h
  · cases h
  rename_i h1
  split at h
  · cases h
  rename_i h2
  split at h
  · cases h
  rename_i h3
  simp only [not_or, Bool.and_eq_false_iff, decide_eq_false_iff_not, not_and, Classical.not_not, Bool.not_eq_false, ne_eq] at h1 h2 h3
  obtain ⟨⟨b1, b2⟩, ⟨b3, b4⟩, b5⟩ := h1
  obtain ⟨c1, c2⟩ := h2
  obtain ⟨d1, d2, d3⟩ := h3
  have hsm : s.length ≤ 12 ∧ (k = 1 ∨ k = 6 → s ≠ []) := by
    unfold rCls tyCls at c1
    by_cases e1 : k = 1
    · simp only [e1, if_true] at c1
      unfold isV at c1
      rw [Bool.and_eq_true] at c1
      exact ⟨isNm_small c1.1, fun _ h0 => by rw [h0] at c1; simp [isNm] at c1⟩
    · by_cases e6 : k = 6
      · subst e6
        simp at c1
        exact ⟨isNm_small c1, fun _ h0 => by rw [h0] at c1; simp [isNm] at c1⟩
      · simp [e1, e6] at c1
        exact ⟨by rw [c1]; simp, fun h => absurd h (by simp [e1, e6])⟩
  have hll : (k = 5 → l.length = 2) ∧ l.length ≤ 4 := by
    refine ⟨fun e => d1 e, ?_⟩
    by_cases e5 : k = 5
    · have := d1 e5; omega
    · by_cases e6 : k = 6
      · have := d2 e6; omega
      · have := d3 e5 e6; omega
  by_cases e5 : k = 5
  · rw [if_neg (by simp [e5]), if_pos e5] at h
    unfold rowErr at h
    split at h
    · rename_i hl0
      split at h
      · cases h
      · rename_i ht
        simp at ht
        exact ⟨⟨by omega, by omega⟩, ⟨by omega, by omega⟩, hsm.1, hsm.2, hll, fun x hx => labErr_zero (labsErr_zero hl0 x hx), ⟨by omega, by omega⟩, fun h => absurd e5 h⟩
    · rename_i hl0; exact absurd h hl0
  · by_cases hz : 0 < ls.length ∨ tl ≠ 0
    · rw [if_pos ⟨e5, hz⟩] at h; cases h
    · simp only [not_or, ne_eq, Classical.not_not] at hz
      have hz1 : ls = [] := List.length_eq_zero_iff.1 (by omega)
      exact ⟨⟨by omega, by omega⟩, ⟨by omega, by omega⟩, hsm.1, hsm.2, hll, fun x hx => by rw [hz1] at hx; simp at hx, ⟨by omega, by omega⟩, fun _ => ⟨hz1, hz.2⟩⟩
theorem tysErr_zero : ∀ {l : List Ty}, tysErr l = 0 → ∀ x ∈ l, tyErr x = 0
  | y :: r, h, x, hx => by
    rw [tysErr] at h
    by_cases h0 : tyErr y = 0
    · rw [if_pos h0] at h
      rcases List.mem_cons.1 hx with rfl | hx
      · exact h0
      · exact tysErr_zero h x hx
    · rw [if_neg h0] at h; exact absurd h h0
theorem tyErr_zero {k n : Int} {s : Txt} {l : List Ty} {ls : List (Txt × Int)} {tl : Int} (h : tyErr (.mk k n s l ls tl) = 0) : NodeT k n s l ls tl ∧ ∀ x ∈ l, tyErr x = 0 := by
  rw [tyErr] at h
  split at h
  · rename_i h0
    exact ⟨nodeT_of h0, tysErr_zero h⟩
  · rename_i h0; exact absurd h h0
theorem fun2_of : ∀ e, tyErr e = 0 → fun2 e = true := by
  refine Ty.ind fun e ih h => ?_
  cases e with
  | mk k n s l ls tl =>
  obtain ⟨hN, hp⟩ := tyErr_zero h
  rw [fun2, Bool.and_eq_true]
  refine ⟨?_, ?_⟩
  · by_cases e5 : k = 5
    · have := hN.hl.1 e5; simp; right; omega
    · simp [e5]
  · have key : ∀ L : List Ty, (∀ x ∈ L, fun2 x = true) → fun2L L = true := by
      intro L
      induction L with
      | nil => intro _; rfl
      | cons y r ihr => intro hL; rw [fun2L, hL y (by simp), ihr (fun x hx => hL x (by simp [hx]))]; rfl
    exact key l (fun x hx => ih x hx (hp x hx))
theorem itoa21 {n : Int} (h : -1 ≤ n ∧ n ≤ 999999999) : (Lib.itoa n).length ≤ 21 := Lib.itoa_length_le n (by omega) (by omega)
theorem tot_lab {x : Txt × Int} (h : x.1.length ≤ 12 ∧ 0 ≤ x.2 ∧ x.2 ≤ 999999999) : tot (labP x) ≤ 40 := by
  unfold labP
  rw [tot_append]
  have h1 : tot [x.1] = x.1.length := rfl
  have h2 := itoa21 (n := x.2) ⟨by omega, by omega⟩
  split
  · show tot [x.1] + 0 ≤ 40; omega
  · show tot [x.1] + (1 + ((Lib.itoa x.2).length + 0)) ≤ 40; omega
theorem tot_labs (l : List (Txt × Int)) (h : ∀ x ∈ l, x.1.length ≤ 12 ∧ 0 ≤ x.2 ∧ x.2 ≤ 999999999) : tot (labsP l) ≤ 42 * l.length := by
  unfold labsP
  refine Nat.le_trans (tot_list [44, 32] (l.map labP)) ?_
  induction l with
  | nil => simp
  | cons x r ih =>
    have h1 := tot_lab (h x (by simp))
    have h2 := ih (fun y hy => h y (by simp [hy]))
    simp only [List.map_cons, List.sum_cons, List.length_cons, List.length_nil] at h2 ⊢
    omega
theorem tot_row (ls : List (Txt × Int)) (tl : Int) (h : ∀ x ∈ ls, x.1.length ≤ 12 ∧ 0 ≤ x.2 ∧ x.2 ≤ 999999999) (hl : ls.length ≤ 24) (ht : -1 ≤ tl ∧ tl ≤ 999999999) : tot (rowP ls tl) ≤ 1100 := by
  unfold rowP
  rw [tot_append, tot_append, tot_append]
  have h1 := tot_labs ls h
  have h2 : tot (tailP ls.length tl) ≤ 30 := by
    have h3 := itoa21 ht
    unfold tailP
    split
    · show 0 ≤ 30; omega
    · split
      · show 3 + ((Lib.itoa tl).length + 0) ≤ 30; omega
      · show 1 + (3 + ((Lib.itoa tl).length + 0)) ≤ 30; omega
  have h4 : tot [([60] : Txt)] = 1 := rfl
  have h5 : tot [([62] : Txt)] = 1 := rfl
  omega
theorem tot_args : ∀ l : List LvP, tot (argsP l) ≤ l.length + sumP l
  | [] => Nat.le_refl _
  | q :: r => by
    have h1 := tot_args r
    have h2 := tot_at 2 q
    have h3 : sumP (q :: r) = (tot q.2 + 2) + sumP r := rfl
    have h4 : argsP (q :: r) = [[32]] ++ (atP 2 q ++ argsP r) := by unfold argsP; rw [List.flatMap_cons, List.append_assoc]
    rw [h4, tot_append, tot_append, List.length_cons, h3]
    have h5 : tot [([32] : Txt)] = 1 := rfl
    omega
theorem tot_node {k n : Int} {s : Txt} {l : List Ty} {ls : List (Txt × Int)} {tl : Int} (h : NodeT k n s l ls tl) (h24 : ls.length ≤ 24) : tot (tyP k n s (l.map Ty.lp) ls tl) ≤ 1200 + sumP (l.map Ty.lp) := by
  have hi := itoa21 (n := n) ⟨by have := h.hn; omega, h.hn.2⟩
  unfold tyP
  split
  · show 1 + ((Lib.itoa n).length + 0) ≤ _; omega
  split
  · show 3 ≤ _; omega
  split
  · show 4 ≤ _; omega
  split
  · show 4 ≤ _; omega
  split
  · rw [tot_append, tot_append, tot_append]
    have h1 := nth_tot2 (l.map Ty.lp) 1 0
    have h2 := tot_row ls tl h.hls h24 h.htl
    have h3 : tot [([32, 45, 62, 32] : Txt)] = 4 := rfl
    have h4 : tot (if 0 < ls.length ∨ tl ≠ -1 then rowP ls tl ++ [[32]] else []) ≤ 1101 := by
      split
      · rw [tot_append]
        have h5 : tot [([32] : Txt)] = 1 := rfl
        omega
      · show 0 ≤ _; omega
    omega
  · rw [tot_append]
    have h1 := tot_args (l.map Ty.lp)
    rw [List.length_map] at h1
    have h2 : tot [s] = s.length := rfl
    have := h.hs
    have := h.hl.2
    omega
theorem tot_pcsT : ∀ e, tyErr e = 0 → labT e = false → tot (pcsT e) + 2 ≤ 1300 * szT e := by
  refine Ty.ind fun e ih h h24 => ?_
  cases e with
  | mk k n s l ls tl =>
  obtain ⟨hN, hp⟩ := tyErr_zero h
  rw [labT, Bool.or_eq_false_iff] at h24
  have key : ∀ (L : List Ty), labTL L = false → (∀ x ∈ L, labT x = false → tot (pcsT x) + 2 ≤ 1300 * szT x) → sumP (L.map Ty.lp) ≤ 1300 * szTL L := by
    intro L
    induction L with
    | nil => intro _ _; simp [sumP]
    | cons y r ihr =>
      intro h0 hL
      rw [labTL, Bool.or_eq_false_iff] at h0
      have g1 := hL y (by simp) h0.1
      have g2 := ihr h0.2 (fun x hx => hL x (by simp [hx]))
      have g3 : sumP ((y :: r).map Ty.lp) = (tot (pcsT y) + 2) + sumP (r.map Ty.lp) := rfl
      rw [szTL, g3]; omega
  have a1 := key l h24.2 (fun x hx hx2 => ih x hx (hp x hx) hx2)
  have a2 := tot_node hN (by have := h24.1; simp at this; omega)
  rw [pcsT_mk, szT]
  omega
theorem pcsT_pos {e : Ty} (h : tyErr e = 0) : 0 < tot (pcsT e) := by
  cases e with
  | mk k n s l ls tl =>
  obtain ⟨hN, _⟩ := tyErr_zero h
  rw [pcsT_mk]
  unfold tyP
  split
  · show 0 < 1 + _; omega
  split
  · decide
  split
  · decide
  split
  · decide
  split
  · rw [tot_append, tot_append]
    have h3 : tot [([32, 45, 62, 32] : Txt)] = 4 := rfl
    omega
  · rename_i h0 h2 h3 h4 h5
    rw [tot_append]
    have h6 : s ≠ [] := hN.hne (by have := hN.hk; omega)
    have h7 : tot [s] = s.length := rfl
    have h8 := List.length_pos_iff.2 h6
    omega
/-- the text of a type -/
def textT (e : Ty) : Txt := (pcsT e).flatten
/-- what ShowType returns of a type -/
def showT (e : Ty) : Txt × Int := if pkT e = 0 then (textT e, 0) else ([], pkT e)
theorem pkT_zero {e : Ty} (h : pkT e = 0) : tyErr e = 0 ∧ labT e = false ∧ szT e ≤ 3000 ∧ hT e ≤ 200 := by
  unfold pkT at h
  split at h
  · cases h
  rename_i h1
  split at h
  · cases h
  rename_i h2
  rw [firstT_nodes] at h
  have hv := measT_maxT (nodesT 1 e) 0 0 (by omega) (by omega)
  have hm := maxT_E e 0 1
  have hl := nodesT_len e 1
  refine ⟨h, by rw [manyT_nodes] at h2; simpa using h2, by omega, by omega⟩

set_option maxRecDepth 100000 in
set_option maxHeartbeats 4000000 in
theorem showType_any (P : Nat → Prop) (e : Ty) (k n : Int) (s : ByteArray) (t : Int) (A0 : Option Addr) (n0 c0 : Nat) (A1 : Option Addr) (n1 c1 : Nat) (w : World)
    (hre : RepT P w e [.int .i64 k, .int .i64 n, .string s, .slice A0 n0 c0, .slice A1 n1 c1, .int .i64 t]) (hh : hT e ≤ 900000) (hu : UsesT w) (hT : Tab w) :
    Calls Tryz.prog 7 #[.agg #[.int .i64 k, .int .i64 n, .string s, .slice A0 n0 c0, .slice A1 n1 c1, .int .i64 t]] w fun r w' => r = .returned (.tuple #[.string (strB (showT e).1), .int .i64 (showT e).2]) ∧ Below w.heap.size w w' := by
  obtain ⟨W1, hW1⟩ : ∃ W1, w.alloc (.cells #[.int .i64 k, .int .i64 n, .string s, .slice A0 n0 c0, .slice A1 n1 c1, .int .i64 t] 28) = W1 := ⟨_, rfl⟩
  have HB1 : Hid (Below w.heap.size w W1) := Lib.hid (by rw [← hW1]; exact (Below.refl _ _).alloc (Nat.le_refl _) _)
  have HE1 : Hid (TyBx W1 w.heap.size (.int .i64 k) (.int .i64 n) (.string s) (.slice A0 n0 c0) (.slice A1 n1 c1) (.int .i64 t)) := Lib.hid (by rw [← hW1]; exact TyBx.new w _ _ _ _ _ _)
  have HC := Lib.hid (checkType_any P e k n s t A0 n0 c0 A1 n1 c1 W1 (hre.keep (Same.of_below HB1.out)) hh (hu.below HB1.out))
  have HRe : Hid (∀ w', Below w.heap.size w w' → RepT (fun b => b < w'.heap.size) w' e [.int .i64 k, .int .i64 n, .string s, .slice A0 n0 c0, .slice A1 n1 c1, .int .i64 t]) := Lib.hid (fun w' hb => (hre.keep (Same.of_below hb)).tight)
  have HTa : Hid (∀ w', Below w.heap.size w w' → Tab w') := Lib.hid (fun w' hb => by
    obtain ⟨t, fr, ht⟩ := hT
    exact ⟨t, fr, (hb.block _ (Array.getElem?_eq_some_iff.1 ht).1).trans ht⟩)
  obtain ⟨V, hV⟩ : ∃ V, V = pkT e := ⟨_, rfl⟩
  rw [← hV] at HC
  obtain ⟨a0, a1, a2, a3, a4, a5⟩ := HE1.out.c
  obtain ⟨X, hX⟩ : ∃ X, X = showT e := ⟨_, rfl⟩
  rw [← hX]
  clear hre hh hu hT
  by_cases hv : V = 0
  · obtain ⟨hok, h24, hsz, _⟩ := pkT_zero (hV.symm.trans hv)
    have HR : Hid (X = (textT e, 0)) := Lib.hid (by rw [hX]; unfold showT; exact if_pos (hV.symm.trans hv))
    have htot : tot (pcsT e) + 2 ≤ 3900000 := by have := tot_pcsT e hok h24; omega
    have htot2 : tot (atP 0 e.lp) ≤ 3900002 := by have := tot_at 0 e.lp; have h2 : tot e.lp.2 = tot (pcsT e) := rfl; omega
    have hne := pcsT_pos hok
    have HEx := Lib.hid (full_says e (bare_all e (fun2_of e hok)))
    have HAt : Hid (atP 0 e.lp = pcsT e) := Lib.hid (by
      unfold atP
      refine if_pos ?_
      show 0 ≤ lvT e.k e.l.length
      unfold lvT
      split
      · exact Int.le_refl _
      · split <;> decide)
    have HL : Hid (([] : Txt).length + tot (atP 0 e.lp) ≤ 140737488355328) := Lib.hid (by show 0 + _ ≤ _; omega)
    have HW : Hid (wrs 9223372036854775807 [] (atP 0 e.lp) = textT e) := Lib.hid (by
      rw [HAt.out]
      have := wrs_all 9223372036854775807 (pcsT e) [] (by show ((0 + tot (pcsT e) : Nat) : Int) ≤ _; omega)
      rw [this, List.nil_append]; rfl)
    have HNe : Hid (textT e ≠ []) := Lib.hid (by
      intro h
      have := flatten_len (pcsT e)
      unfold textT at h
      rw [h] at this
      simp at this; omega)
    clear hV hX hok htot htot2 hne h24 hsz
    subst hv
    go_enter Tryz.func7, Tryz.ntmps7
    go_wp2_with fail
    clear hW1
    refine HC.out.mono ?_
    rintro r w2 ⟨rfl, hb⟩
    have HB2 := Lib.hid (HB1.out.trans (hb.mono HB1.out.size))
    have HE2 := Lib.hid (HE1.out.kept (grown_below hb none) (by simp))
    clear hb a0 a1 a2 a3 a4 a5
    go_wp2_with fail
    refine (newPrinter_any 9223372036854775807 w2 (HTa.out w2 HB2.out)).mono ?_
    rintro r w3 ⟨rfl, hp3, hb3⟩
    have HB3 := Lib.hid (HB2.out.trans (hb3.mono HB2.out.size))
    have HE3 := Lib.hid (HE2.out.kept (grown_below hb3 none) (by simp))
    have HC2 := Lib.hid (HEx.out w2.heap.size w2.heap.size _ _ 9223372036854775807 [] 0 _ w3 hp3 ((HRe.out w2 HB2.out).keep (Same.of_below hb3)) HL.out)
    have HZ2 := Lib.hid HB2.out.size
    obtain ⟨a0, a1, a2, a3, a4, a5⟩ := HE3.out.c
    clear hp3 hb3 HC
    go_wp2_with fail
    refine HC2.out.mono ?_
    rintro r w4 ⟨rfl, hp4⟩
    have HB4 := Lib.hid (HB3.out.trans (hp4.2.1.mono HZ2.out))
    have hpb := Pr.pb hp4.1
    rw [HW.out] at hpb
    have HS := Lib.hid (string_any _ _ _ _ _ w4 hpb HNe.out)
    clear hp4 hpb a0 a1 a2 a3 a4 a5 HC2
    go_wp2_with fail
    refine HS.out.mono ?_
    rintro r w5 ⟨rfl, hb5⟩
    have HB5 := Lib.hid (HB4.out.trans (hb5.mono HZ2.out))
    clear hb5
    go_wp2_with fail
    go_ret2
    exact ⟨by rw [HR.out]; rfl, HB5.out⟩
  · have HR : Hid (X = ([], V)) := Lib.hid (by rw [hX]; unfold showT; rw [← hV]; exact if_neg hv)
    have hvb : (V == 0) = false := by simpa using hv
    clear hV hX hv
    go_enter Tryz.func7, Tryz.ntmps7
    go_wp2_with fail
    clear hW1
    refine HC.out.mono ?_
    rintro r w2 ⟨rfl, hb⟩
    have HB2 := Lib.hid (HB1.out.trans (hb.mono HB1.out.size))
    clear hb a0 a1 a2 a3 a4 a5
    go_wp2_with fail
    go_ret2
    exact ⟨by rw [HR.out]; rfl, HB2.out⟩
end Go.Proofs.YtbfojibhdadglaaGreatDoor
