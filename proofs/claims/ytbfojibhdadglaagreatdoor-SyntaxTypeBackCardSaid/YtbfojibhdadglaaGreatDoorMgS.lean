/- Texts put together by program: TpB TpA TpC TpD TpE TpF TpG TpH TpI TpJ TpK TpR TpV. -/
import Derived.Test.YtbfojibhdadglaaGreatDoorMgA
import Derived.Test.YtbfojibhdadglaaGreatDoorMgB
import Derived.Test.YtbfojibhdadglaaGreatDoorMgQ
import Derived.Test.YtbfojibhdadglaaGreatDoorMgP
import Derived.Test.YtbfojibhdadglaaGreatDoorMgC
import Derived.Maps.AppendAt
import Derived.WalkMore
/- The parser of types: a number behind a letter. -/
namespace Go.Proofs.YtbfojibhdadglaaGreatDoor
open Go.RowKit

theorem hasP_yes (a : UInt8) (r : List UInt8) : Lib.hasPrefix (a :: r) [a] = true := by simp [Lib.hasPrefix]
theorem hasP_no (a : UInt8) (s : List UInt8) (h : s.head? ≠ some a) : Lib.hasPrefix s [a] = false := by
  cases s with
  | nil => simp [Lib.hasPrefix]
  | cons c r =>
    have : ¬ c = a := by simpa using h
    have h2 : ¬ a = c := fun e => this e.symm
    simp [Lib.hasPrefix, List.isPrefixOf, h2]
set_option maxRecDepth 100000 in
set_option maxHeartbeats 1000000 in
theorem cutLite_yes (a : UInt8) (r : List UInt8) (w : World) (hl : r.length ≤ 100000) :
    Calls Tryz.prog 188 #[.string (strB (a :: r)), .string ⟨#[a]⟩] w fun e w' => e = .returned (.tuple #[.string (strB r), .bool true]) ∧ w' = w := by
  have HH : Hid (∀ w, Calls Tryz.prog 187 #[.string (strB (a :: r)), .string ⟨#[a]⟩] w fun e w' => e = .returned (.bool true) ∧ w' = w) := Lib.hid (fun w => by
    have := Tryz.stringslite_HasPrefix (strB (a :: r)) ⟨#[a]⟩ w
    rw [data_strB, show (⟨#[a]⟩ : ByteArray).data.toList = [a] from rfl, hasP_yes] at this
    exact this)
  have hz : (strB (a :: r)).size = r.length + 1 := by simp [strB, ByteArray.size]
  have HX : Hid ((strB (a :: r)).extract 1 (r.length + 1) = strB r) := Lib.hid (by
    apply ByteArray.ext
    simp [strB, ByteArray.data_extract])
  obtain ⟨S, hS⟩ : ∃ S, S = strB (a :: r) := ⟨_, rfl⟩
  rw [← hS] at HH HX hz ⊢
  have hsz : S.size ≤ 100001 := by omega
  obtain ⟨n, hn⟩ : ∃ n, n = r.length := ⟨_, rfl⟩
  rw [← hn] at HX hz
  clear hS hn hl
  go_enter Tryz.func188, Tryz.ntmps188
  go_wp2_with fail
  refine (HH.out _).mono ?_
  rintro e w1 ⟨rfl, rfl⟩
  go_wp2_with fail
  go_ret2
  exact ⟨by rw [HX.out]; rfl, rfl⟩
set_option maxRecDepth 100000 in
set_option maxHeartbeats 1000000 in
theorem cutLite_no (a : UInt8) (s : List UInt8) (w : World) (h : s.head? ≠ some a) :
    Calls Tryz.prog 188 #[.string (strB s), .string ⟨#[a]⟩] w fun e w' => e = .returned (.tuple #[.string (strB s), .bool false]) ∧ w' = w := by
  have HH : Hid (∀ w, Calls Tryz.prog 187 #[.string (strB s), .string ⟨#[a]⟩] w fun e w' => e = .returned (.bool false) ∧ w' = w) := Lib.hid (fun w => by
    have := Tryz.stringslite_HasPrefix (strB s) ⟨#[a]⟩ w
    rw [data_strB, show (⟨#[a]⟩ : ByteArray).data.toList = [a] from rfl, hasP_no a s h] at this
    exact this)
  obtain ⟨S, hS⟩ : ∃ S, S = strB s := ⟨_, rfl⟩
  rw [← hS] at HH ⊢
  clear hS h
  go_enter Tryz.func188, Tryz.ntmps188
  go_wp2_with fail
  refine (HH.out _).mono ?_
  rintro e w1 ⟨rfl, rfl⟩
  go_wp2_with fail
  go_ret2
  exact ⟨rfl, rfl⟩
/-- what strings.CutPrefix answers -/
def CutTo (a : UInt8) (s r : List UInt8) (b : Bool) : Prop := ∀ w, Calls Tryz.prog 178 #[.string (strB s), .string ⟨#[a]⟩] w fun e w' => e = .returned (.tuple #[.string (strB r), .bool b]) ∧ w' = w
theorem cut_of (a : UInt8) (s r : List UInt8) (b : Bool) (h : ∀ w, Calls Tryz.prog 188 #[.string (strB s), .string ⟨#[a]⟩] w fun e w' => e = .returned (.tuple #[.string (strB r), .bool b]) ∧ w' = w) : CutTo a s r b := by
  intro w
  have HH := Lib.hid h
  obtain ⟨S, hS⟩ : ∃ S, S = strB s := ⟨_, rfl⟩
  obtain ⟨R, hR⟩ : ∃ R, R = strB r := ⟨_, rfl⟩
  rw [← hS, ← hR] at HH ⊢
  clear hS hR h
  go_enter Tryz.func178, Tryz.ntmps178
  go_wp2_with fail
  refine (HH.out _).mono ?_
  rintro e w1 ⟨rfl, rfl⟩
  go_wp2_with fail
  go_ret2
  exact ⟨rfl, rfl⟩
theorem cut_yes (a : UInt8) (r : List UInt8) (hl : r.length ≤ 100000) : CutTo a (a :: r) r true := cut_of _ _ _ _ fun w => cutLite_yes a r w hl
theorem cut_no (a : UInt8) (s : List UInt8) (h : s.head? ≠ some a) : CutTo a s s false := cut_of _ _ _ _ fun w => cutLite_no a s w h

theorem lexS_bad {l : List UInt8} (hne : l ≠ []) (h : ∀ c ∈ l, kb c ≠ 0) (hl : l.length ≤ 30000) (ht : tokS l = none) : lexS l = ([], 0, 2) := by
  have hsp : spLen false l = 0 := by
    cases l with
    | nil => exact absurd rfl hne
    | cons c r => exact spLen_word (h c (by simp))
  have hp := partOf_word hne h
  have hF : lexF (l.length + 1) 0 l = ([], 0) := by
    have := lexF_none (f := l.length) (p := 0) (o := 0) (l := l) (by rw [List.drop_zero, hsp]) (by rw [List.drop_zero, hp]; exact ht)
    rwa [List.drop_zero] at this
  have h0 := List.length_pos_iff.2 hne
  unfold lexS
  rw [if_neg (by omega), hF, if_pos h0]
  rfl
theorem lexS_nil : lexS [] = ([], 0, 0) := by
  unfold lexS
  rw [lexF_nil]
  rfl

/-- what numberBehind answers -/
def NbTo (a : UInt8) (s : List UInt8) (n : Int) (b : Bool) : Prop := ∀ w, Syms w → Calls Tryz.prog 156 #[.string ⟨#[a]⟩, .string (strB s)] w fun e w' => e = .returned (.tuple #[.int .i64 n, .bool b]) ∧ Below w.heap.size w w'
set_option maxRecDepth 100000 in
set_option maxHeartbeats 1000000 in
theorem nb_cut (a : UInt8) (s r : List UInt8) (hc : CutTo a s r false) : NbTo a s 0 false := by
  intro w hY
  have HH := Lib.hid hc
  unfold CutTo at HH
  obtain ⟨S, hS⟩ : ∃ S, S = strB s := ⟨_, rfl⟩
  obtain ⟨R, hR⟩ : ∃ R, R = strB r := ⟨_, rfl⟩
  rw [← hS, ← hR] at HH
  rw [← hS]
  clear hS hR hc hY
  go_enter Tryz.func156, Tryz.ntmps156
  go_wp2_with fail
  refine (HH.out _).mono ?_
  rintro e w1 ⟨rfl, rfl⟩
  go_wp2_with fail
  go_ret2
  exact ⟨rfl, Below.refl _ _⟩

set_option maxRecDepth 100000 in
set_option maxHeartbeats 1000000 in
theorem nb_bad (a : UInt8) (s r : List UInt8) (hc : CutTo a s r true) (hl : r.length ≤ 30000) (hx : lexS r = ([], 0, 2)) : NbTo a s 0 false := by
  intro w hY
  have HH := Lib.hid hc
  unfold CutTo at HH
  have HL := Lib.hid (fun w hY => Lex_any (strB r) w hY (by have := (show (strB r).size = r.length by simp [strB, ByteArray.size]); unfold maxLen; omega))
  rw [data_strB, hx] at HL
  have HY := Lib.hid hY
  obtain ⟨S, hS⟩ : ∃ S, S = strB s := ⟨_, rfl⟩
  obtain ⟨R, hR⟩ : ∃ R, R = strB r := ⟨_, rfl⟩
  rw [← hS, ← hR] at HH
  rw [← hR] at HL
  rw [← hS]
  clear hS hR hc hY hx hl
  go_enter Tryz.func156, Tryz.ntmps156
  go_wp2_with fail
  refine (HH.out _).mono ?_
  rintro e w1 ⟨rfl, rfl⟩
  go_wp2_with fail
  refine (HL.out _ HY.out).mono ?_
  rintro e w2 ⟨v, rfl, ho, hb⟩
  obtain ⟨A, c, rfl⟩ : ∃ A c, v = .slice A 0 c := by
    rcases ho.2 with ⟨rfl, _⟩ | ⟨g, cap, cur, rfl, _⟩
    · exact ⟨_, _, rfl⟩
    · exact ⟨_, _, rfl⟩
  have HB := Lib.hid hb
  clear ho hb
  go_wp2_with fail
  go_ret2
  exact ⟨rfl, HB.out⟩
set_option maxRecDepth 100000 in
set_option maxHeartbeats 1000000 in
theorem nb_none (a : UInt8) (s r : List UInt8) (hc : CutTo a s r true) (hl : r.length ≤ 30000) (hx : lexS r = ([], 0, 0)) : NbTo a s 0 false := by
  intro w hY
  have HH := Lib.hid hc
  unfold CutTo at HH
  have HL := Lib.hid (fun w hY => Lex_any (strB r) w hY (by have := (show (strB r).size = r.length by simp [strB, ByteArray.size]); unfold maxLen; omega))
  rw [data_strB, hx] at HL
  have HY := Lib.hid hY
  obtain ⟨S, hS⟩ : ∃ S, S = strB s := ⟨_, rfl⟩
  obtain ⟨R, hR⟩ : ∃ R, R = strB r := ⟨_, rfl⟩
  rw [← hS, ← hR] at HH
  rw [← hR] at HL
  rw [← hS]
  clear hS hR hc hY hx hl
  go_enter Tryz.func156, Tryz.ntmps156
  go_wp2_with fail
  refine (HH.out _).mono ?_
  rintro e w1 ⟨rfl, rfl⟩
  go_wp2_with fail
  refine (HL.out _ HY.out).mono ?_
  rintro e w2 ⟨v, rfl, ho, hb⟩
  obtain ⟨A, c, rfl⟩ : ∃ A c, v = .slice A 0 c := by
    rcases ho.2 with ⟨rfl, _⟩ | ⟨g, cap, cur, rfl, _⟩
    · exact ⟨_, _, rfl⟩
    · exact ⟨_, _, rfl⟩
  have HB := Lib.hid hb
  clear ho hb
  go_wp2_with fail
  go_ret2
  exact ⟨rfl, HB.out⟩
set_option maxRecDepth 100000 in
set_option maxHeartbeats 1000000 in
theorem nb_one (a : UInt8) (s r : List UInt8) (t : Tk) (hc : CutTo a s r true) (hl : r.length ≤ 30000) (hx : lexS r = ([t], 0, 0)) (hk : t.kind = 3) : NbTo a s t.n true := by
  intro w hY
  have HH := Lib.hid hc
  unfold CutTo at HH
  have HL := Lib.hid (fun w hY => Lex_any (strB r) w hY (by have := (show (strB r).size = r.length by simp [strB, ByteArray.size]); unfold maxLen; omega))
  rw [data_strB, hx] at HL
  have HY := Lib.hid hY
  have fl0 := tfield0
  have fl2 := tfield2
  obtain ⟨S, hS⟩ : ∃ S, S = strB s := ⟨_, rfl⟩
  obtain ⟨R, hR⟩ : ∃ R, R = strB r := ⟨_, rfl⟩
  rw [← hS, ← hR] at HH
  rw [← hR] at HL
  rw [← hS]
  clear hS hR hc hY hx hl
  obtain ⟨tk, tss, tn, tp⟩ := t
  simp only at hk
  subst hk
  obtain ⟨U, hU⟩ : ∃ U, U = strB tss := ⟨_, rfl⟩
  go_enter Tryz.func156, Tryz.ntmps156
  go_wp2_with fail
  refine (HH.out _).mono ?_
  rintro e w1 ⟨rfl, rfl⟩
  go_wp2_with fail
  refine (HL.out _ HY.out).mono ?_
  rintro e w2 ⟨v, rfl, ho, hb⟩
  obtain ⟨g, cap, rfl⟩ := ownsRow_succ (k := 0) ho
  have d0 : w2.cell? ⟨g, 0, none⟩ = some (.int .i64 3) := (ho.cellAt 0 (by decide)).trans rfl
  have d1 : w2.cell? ⟨g, 1, none⟩ = some (.string U) := by rw [hU]; exact (ho.cellAt 1 (by decide)).trans rfl
  have d2 : w2.cell? ⟨g, 2, none⟩ = some (.int .i64 tn) := (ho.cellAt 2 (by decide)).trans rfl
  have d3 : w2.cell? ⟨g, 3, none⟩ = some (.int .i64 tp) := (ho.cellAt 3 (by decide)).trans rfl
  have HB := Lib.hid hb
  clear ho hb hU
  go_wp2_with fail
  go_ret2
  exact ⟨rfl, HB.out⟩
set_option maxRecDepth 100000 in
set_option maxHeartbeats 1000000 in
theorem nb_other (a : UInt8) (s r : List UInt8) (t : Tk) (hc : CutTo a s r true) (hl : r.length ≤ 30000) (hx : lexS r = ([t], 0, 0)) (hk : t.kind ≠ 3) : NbTo a s 0 false := by
  intro w hY
  have HH := Lib.hid hc
  unfold CutTo at HH
  have HL := Lib.hid (fun w hY => Lex_any (strB r) w hY (by have := (show (strB r).size = r.length by simp [strB, ByteArray.size]); unfold maxLen; omega))
  rw [data_strB, hx] at HL
  have HY := Lib.hid hY
  have fl0 := tfield0
  have fl2 := tfield2
  obtain ⟨S, hS⟩ : ∃ S, S = strB s := ⟨_, rfl⟩
  obtain ⟨R, hR⟩ : ∃ R, R = strB r := ⟨_, rfl⟩
  rw [← hS, ← hR] at HH
  rw [← hR] at HL
  rw [← hS]
  clear hS hR hc hY hx hl
  obtain ⟨tk, tss, tn, tp⟩ := t
  simp only at hk
  have hk2 : (tk != 3) = true := by simpa using hk
  clear hk
  obtain ⟨U, hU⟩ : ∃ U, U = strB tss := ⟨_, rfl⟩
  go_enter Tryz.func156, Tryz.ntmps156
  go_wp2_with fail
  refine (HH.out _).mono ?_
  rintro e w1 ⟨rfl, rfl⟩
  go_wp2_with fail
  refine (HL.out _ HY.out).mono ?_
  rintro e w2 ⟨v, rfl, ho, hb⟩
  obtain ⟨g, cap, rfl⟩ := ownsRow_succ (k := 0) ho
  have d0 : w2.cell? ⟨g, 0, none⟩ = some (.int .i64 tk) := (ho.cellAt 0 (by decide)).trans rfl
  have d1 : w2.cell? ⟨g, 1, none⟩ = some (.string U) := by rw [hU]; exact (ho.cellAt 1 (by decide)).trans rfl
  have d2 : w2.cell? ⟨g, 2, none⟩ = some (.int .i64 tn) := (ho.cellAt 2 (by decide)).trans rfl
  have d3 : w2.cell? ⟨g, 3, none⟩ = some (.int .i64 tp) := (ho.cellAt 3 (by decide)).trans rfl
  have HB := Lib.hid hb
  clear ho hb hU
  go_wp2_with fail
  go_ret2
  exact ⟨rfl, HB.out⟩

theorem itoaLen9 : ∀ (j : Nat) (n : Int), 1 ≤ j → 0 ≤ n → n < 10 ^ j → (Lib.itoa n).length ≤ j
  | 0, n, h, _, _ => by omega
  | 1, n, _, h0, h => by rw [itoa_small ⟨h0, by simpa using h⟩]; simp
  | j + 2, n, _, h0, h => by
    by_cases h10 : n < 10
    · rw [itoa_small ⟨h0, h10⟩]; simp
    · rw [itoa_big (by omega), List.length_append, itoa_small (n := n % 10) (by omega)]
      have := itoaLen9 (j + 1) (n / 10) (by omega) (by omega) (by rw [Int.pow_succ] at h; omega)
      simp only [List.length_cons, List.length_nil]; omega
theorem nb_num (a : UInt8) {n : Int} (h : 0 ≤ n ∧ n ≤ 999999999) : NbTo a (a :: Lib.itoa n) n true := by
  have hl := itoaLen9 9 n (by omega) h.1 (by omega)
  have hw := itoa_word h
  exact nb_one a _ _ ⟨3, [], n, 0⟩ (cut_yes a _ (by omega)) (by omega) (lexS_word hw.1 hw.2 (by omega) (tok_int h)) rfl
/-- a name that is the letter t and digits -/
def numP (s : List UInt8) : Bool := decide (2 ≤ s.length) && (s.head? == some 116) && s.tail.all (fun c => kb c == 3)
theorem intGo_dig : ∀ (l : List UInt8) (m n : Int), intGo m l = some n → ∀ c ∈ l, kb c = 3 := by
  intro l
  induction l with
  | nil => intro m n _ c hc; simp at hc
  | cons x r ih =>
    intro m n hg c hc
    rw [intGo] at hg
    split at hg
    · rename_i hk
      split at hg
      · cases hg
      · rcases List.mem_cons.1 hc with rfl | hc
        · exact hk
        · exact ih _ _ hg c hc
    · cases hg
theorem nb_not {s : List UInt8} (h : isNm 1 s = true) (hn : numP s = false) : NbTo 116 s 0 false := by
  obtain ⟨_, hall, hlen, _⟩ := isNm_all h
  cases s with
  | nil => exact nb_cut _ _ _ (cut_no _ _ (by simp))
  | cons c r =>
    by_cases hc : c = 116
    · subst hc
      simp only [List.length_cons] at hlen
      have hcut := cut_yes 116 r (by omega)
      by_cases h0 : r = []
      · subst h0
        exact nb_none _ _ _ hcut (by simp) lexS_nil
      · have hw : ∀ c ∈ r, kb c ≠ 0 := fun c hc => hall c (by simp [hc])
        cases ht : tokS r with
        | none => exact nb_bad _ _ _ hcut (by omega) (lexS_bad h0 hw (by omega) ht)
        | some x =>
          obtain ⟨k, u, n⟩ := x
          have hx := lexS_word h0 hw (by omega) ht
          refine nb_other _ _ _ ⟨k, u, n, 0⟩ hcut (by omega) hx ?_
          intro hk
          simp only at hk
          subst hk
          rcases tokS_class ht with ⟨_, _, hi⟩ | ⟨_, _, hk⟩
          · have hd := intGo_dig _ _ _ (integerS_some hi).2.1
            have hp := List.length_pos_iff.2 h0
            have : numP (116 :: r) = true := by
              unfold numP
              simp only [List.length_cons, List.head?_cons, List.tail_cons, Bool.and_eq_true, decide_eq_true_eq, beq_self_eq_true, List.all_eq_true, beq_iff_eq]
              exact ⟨⟨by omega, trivial⟩, hd⟩
            rw [this] at hn; cases hn
          · omega
    · exact nb_cut _ _ _ (cut_no _ _ (by simpa using hc))
end Go.Proofs.YtbfojibhdadglaaGreatDoor
/- The parser of types: a rule within a rule. -/
namespace Go.Proofs.YtbfojibhdadglaaGreatDoor
open Go.RowKit

section
variable {w w' : World} {g : Nat} {v0 v1 v2 v3 v4 v5 : Value}
theorem TyBx.fz (h : TyBx w g v0 v1 v2 v3 v4 v5) (i : Nat) : w.frozen? ⟨g, i, none⟩ = false := by
  unfold TyBx at h; simp [World.frozen?, h]
/-- six stores -/
def set6 (w : World) (g : Nat) (v0 v1 v2 v3 v4 v5 : Value) : World := (((((w.setCell ⟨g, 0, none⟩ v0).setCell ⟨g, 1, none⟩ v1).setCell ⟨g, 2, none⟩ v2).setCell ⟨g, 3, none⟩ v3).setCell ⟨g, 4, none⟩ v4).setCell ⟨g, 5, none⟩ v5
theorem TyBx.all (h : TyBx w g v0 v1 v2 v3 v4 v5) (u0 u1 u2 u3 u4 u5 : Value) : TyBx (set6 w g u0 u1 u2 u3 u4 u5) g u0 u1 u2 u3 u4 u5 := by
  unfold TyBx at h ⊢; unfold set6; simp [World.setCell, Array.getElem?_modify, h]
theorem set6_grown (w : World) (g : Nat) (v0 v1 v2 v3 v4 v5 : Value) : w.grownBy (set6 w g v0 v1 v2 v3 v4 v5) (some g) :=
  grown_trans (grown_trans (grown_trans (grown_trans (grown_trans (grown_set w ⟨g, 0, none⟩ v0) (grown_set _ ⟨g, 1, none⟩ v1)) (grown_set _ ⟨g, 2, none⟩ v2)) (grown_set _ ⟨g, 3, none⟩ v3)) (grown_set _ ⟨g, 4, none⟩ v4)) (grown_set _ ⟨g, 5, none⟩ v5)
end
theorem grown_6 {w W : World} {row : Option Nat} (h : w.grownBy W row) {x : Nat} (hp : w.heap.size ≤ x) (v0 v1 v2 v3 v4 v5 : Value) : w.grownBy (set6 W x v0 v1 v2 v3 v4 v5) row :=
  grown_new (grown_new (grown_new (grown_new (grown_new (grown_new h hp _) hp _) hp _) hp _) hp _) hp _
mutual
theorem RepT.tight2 {P : Nat → Prop} {w : World} : ∀ {e : Ty} {cs : List Value}, RepT P w e cs → RepT (fun x => P x ∧ x < w.heap.size) w e cs
  | .mk k n s l ls tl, cs, h => by
    obtain ⟨Al, cl, Ar, cr, e, hf, hn, hl⟩ := h
    refine ⟨Al, cl, Ar, cr, e, hf, fun h0 => ?_, fun h0 => ?_⟩
    · obtain ⟨b, off, e, hp, hlt, hc⟩ := hn h0
      exact ⟨b, off, e, ⟨hp, hlt⟩, hlt, hc⟩
    · obtain ⟨b, off, e, hp, hlt, hr⟩ := hl h0
      exact ⟨b, off, e, ⟨hp, hlt⟩, hlt, RepTL.tight2 hr⟩
theorem RepTL.tight2 {P : Nat → Prop} {w : World} {b : Nat} : ∀ {l : List Ty} {off : Nat}, RepTL P w b off l → RepTL (fun x => P x ∧ x < w.heap.size) w b off l
  | [], _, _ => trivial
  | _ :: _, _, h => by
    obtain ⟨⟨cs, h7, hc, he⟩, hr⟩ := h
    exact ⟨⟨cs, h7, hc, RepT.tight2 he⟩, RepTL.tight2 hr⟩
end
/-- a rule of the parser that succeeds: it yields an expression, and the parser stands behind it -/
def TyTo (w : World) (b g go c : Nat) (ts : List Rt) (nx dp : Nat) (ex : Ty) (e : Ending) (w' : World) : Prop :=
  ∃ (k n : Int) (s : ByteArray) (A0 : Option Addr) (n0 c0 : Nat) (A1 : Option Addr) (n1 c1 : Nat) (tl : Int), e = .returned (.agg #[.int .i64 k, .int .i64 n, .string s, .slice A0 n0 c0, .slice A1 n1 c1, .int .i64 tl]) ∧
    RepT (fun x => w.heap.size ≤ x) w' ex [.int .i64 k, .int .i64 n, .string s, .slice A0 n0 c0, .slice A1 n1 c1, .int .i64 tl] ∧ Went w w' b g go c ts nx dp
theorem resNestedT {tmps : Array Value} {w : World} {g : Nat} {v0 v1 v2 v3 v4 v5 : Value} (h2 : tmps.getD 4 undef = .pointer (some ⟨g, 0, none⟩)) (h : TyBx w g v0 v1 v2 v3 v4 v5) :
    (results Tryz.f68 tmps).run Tryz.prog w = .ok (.agg #[v0, v1, v2, v3, v4, v5]) w := by
  have c0 := h.c0
  have c1 := h.c1
  have c2 := h.c2
  have c3 := h.c3
  have c4 := h.c4
  have c5 := h.c5
  have h2' : tmps[4]?.getD undef = .pointer (some ⟨g, 0, none⟩) := by simpa using h2
  simp [results, Tryz.results68, go_sem, h2', c0, c1, c2, c3, c4, c5]

set_option maxRecDepth 100000 in
set_option maxHeartbeats 1000000 in
theorem nested_ty (x b g go c : Nat) (ts : List Rt) (nx dp nx' : Nat) (ex : Ty) (w : World) (h : PS w b g go c ts nx dp) (hx : BoxP w x b) (hd : dp + 1 ≤ 400)
    (HC : Hid (∀ w', w.grownBy w' (some b) → PS w' b g go c ts nx (dp + 1) → BoxP w' x b → Calls Tryz.prog 69 #[.pointer (some ⟨x, 0, none⟩)] w' (TyTo w' b g go c ts nx' (dp + 1) ex))) :
    Calls Tryz.prog 68 #[.pointer (some ⟨b, 0, none⟩), .func (.func 69) #[] #[.pointer (some ⟨x, 0, none⟩)]] w (TyTo w b g go c ts nx' dp ex) := by
  have c2 := h.c2
  have f2 := h.fr 2
  have hbl := h.blt
  have hgl := h.lt
  have hxl := hx.lt
  have hxb := hx.ne h
  have H := Lib.hid h
  have HX := Lib.hid hx
  have H1 : Hid (PS (w.setCell ⟨b, 2, none⟩ (.int .i64 ((dp : Int) + 1))) b g go c ts nx (dp + 1)) := by have := h.set2 (dp + 1); rw [Int.natCast_add] at this; exact this
  have HX1 : Hid (BoxP (w.setCell ⟨b, 2, none⟩ (.int .i64 ((dp : Int) + 1))) x b) := hx.kept (grown_set w ⟨b, 2, none⟩ _) (by simp; omega)
  have q1 : ¬ w.heap.size = b := by omega
  have q2 : ¬ b = w.heap.size := by omega
  have i0 : (dp : Int) + 1 ≤ 400 := by omega
  clear h hx
  go_enter Tryz.func68, Tryz.ntmps68
  go_wp2_with fail
  obtain ⟨W1, hW1⟩ : ∃ W1, (w.setCell ⟨b, 2, none⟩ (.int .i64 ((dp : Int) + 1))).alloc (.cells #[.int .i64 0, .int .i64 0, .string ⟨#[]⟩, .slice none 0 0, .slice none 0 0, .int .i64 0] 28) = W1 := ⟨_, rfl⟩
  have HPW : Hid (PS W1 b g go c ts nx (dp + 1)) := by rw [← hW1]; exact H1.out.below ((Below.refl _ _).alloc (Nat.le_refl _) _)
  have HXW : Hid (BoxP W1 x b) := by rw [← hW1]; exact HX1.out.kept (World.grownBy_alloc _ _ none) (by simp)
  have HEW : Hid (TyBx W1 w.heap.size (.int .i64 0) (.int .i64 0) (.string ⟨#[]⟩) (.slice none 0 0) (.slice none 0 0) (.int .i64 0)) := by
    have := TyBx.new (w.setCell ⟨b, 2, none⟩ (.int .i64 ((dp : Int) + 1))) (.int .i64 0) (.int .i64 0) (.string ⟨#[]⟩) (.slice none 0 0) (.slice none 0 0) (.int .i64 0)
    rw [hW1, size_set] at this; exact this
  have HGW : Hid (w.grownBy W1 (some b)) := by rw [← hW1]; exact grown_trans (grown_set _ ⟨b, 2, none⟩ _) (World.grownBy_alloc _ _ _)
  have hzW : W1.heap.size = w.heap.size + 1 := by rw [← hW1]; simp [World.setCell]
  rw [hW1]
  refine (HC.out W1 HGW.out HPW.out HXW.out).mono ?_
  rintro e w2 ⟨k, n, s, A0, n0, m0, A1, n1, m1, tl, rfl, hr, hw⟩
  have HR := Lib.hid hr
  have HP2 := Lib.hid hw.1
  have HG2 := Lib.hid hw.2
  have HE2 := Lib.hid (HEW.out.kept hw.2 (by simp; omega))
  have c2' := hw.1.c2
  rw [Int.natCast_add] at c2'
  have f2' := hw.1.fr 2
  have e0 := HE2.out.c0
  have e1 := HE2.out.c1
  have e2 := HE2.out.c2
  have e3 := HE2.out.c3
  have e4 := HE2.out.c4
  have e5 := HE2.out.c5
  have r0 := HE2.out.fz 0
  have r1 := HE2.out.fz 1
  have r2 := HE2.out.fz 2
  have r3 := HE2.out.fz 3
  have r4 := HE2.out.fz 4
  have r5 := HE2.out.fz 5
  have hz1 : w.heap.size < w2.heap.size := by have := hw.2.size; omega
  have hz2 : b < w2.heap.size := by omega
  have HZ := Lib.hid hzW
  clear hr hw hW1 hzW c2 f2 HC
  go_wp2_with fail
  have HP3 : Hid (PS (w2.setCell ⟨b, 2, none⟩ (.int .i64 (dp : Int))) b g go c ts nx' dp) := HP2.out.set2 dp
  have HE3 : Hid (TyBx (w2.setCell ⟨b, 2, none⟩ (.int .i64 (dp : Int))) w.heap.size (.int .i64 0) (.int .i64 0) (.string ⟨#[]⟩) (.slice none 0 0) (.slice none 0 0) (.int .i64 0)) := HE2.out.kept (grown_set _ ⟨b, 2, none⟩ _) (by simp; omega)
  have HG3 : Hid (w.grownBy (w2.setCell ⟨b, 2, none⟩ (.int .i64 (dp : Int))) (some b)) := grown_trans (grown_trans HGW.out HG2.out) (grown_set _ ⟨b, 2, none⟩ _)
  have HS : Hid (∀ V, Same (fun x => W1.heap.size ≤ x) w2 ((set6 (w2.setCell ⟨b, 2, none⟩ (.int .i64 (dp : Int))) w.heap.size (.int .i64 k) (.int .i64 n) (.string s) (.slice A0 n0 m0) (.slice A1 n1 m1) (.int .i64 tl)).alloc V)) := fun V =>
    ((Same.of_grown (grown_set w2 ⟨b, 2, none⟩ _) (fun x hx => by simp; have := HZ.out; omega)).trans (Same.of_grown (set6_grown _ _ _ _ _ _ _ _) (fun x hx => by simp; have := HZ.out; omega))).trans (Same.of_grown (World.grownBy_alloc _ _ none) (fun x hx => by simp))
  exact bodyPost_ret (resNestedT rfl ((HE3.out.all (.int .i64 k) (.int .i64 n) (.string s) (.slice A0 n0 m0) (.slice A1 n1 m1) (.int .i64 tl)).kept (World.grownBy_alloc _ _ none) (by simp))) rfl
    ⟨k, n, s, A0, n0, m0, A1, n1, m1, tl, rfl, (HR.out.keep (HS.out _)).weaken (fun x hx => by have := HZ.out; omega),
      (HP3.out.kept (set6_grown _ _ _ _ _ _ _ _) (by simp; omega) (by simp; omega)).below ((Below.refl _ _).alloc (Nat.le_refl _) _), grown_trans (grown_6 HG3.out (Nat.le_refl _) _ _ _ _ _ _) (World.grownBy_alloc _ _ _)⟩

theorem res_ft_any {tmps : Array Value} {w : World} {g : Nat} {v0 v1 v2 v3 v4 v5 : Value} (h2 : tmps.getD 2 undef = .pointer (some ⟨g, 0, none⟩)) (h : TyBx w g v0 v1 v2 v3 v4 v5) :
    (results Tryz.f23 tmps).run Tryz.prog w = .ok (.agg #[v0, v1, v2, v3, v4, v5]) w := by
  have c0 := h.c0
  have c1 := h.c1
  have c2 := h.c2
  have c3 := h.c3
  have c4 := h.c4
  have c5 := h.c5
  have h2' : tmps[2]?.getD undef = .pointer (some ⟨g, 0, none⟩) := by simpa using h2
  simp [results, Tryz.results23, go_sem, h2', c0, c1, c2, c3, c4, c5]

set_option maxRecDepth 100000 in
set_option maxHeartbeats 1000000 in
theorem fullType_any (b g go c : Nat) (ts : List Rt) (nx dp nx' : Nat) (ex : Ty) (w : World) (h : PS w b g go c ts nx dp) (hd : dp + 1 ≤ 400)
    (HC : Hid (∀ x w', w.grownBy w' (some b) → PS w' b g go c ts nx (dp + 1) → BoxP w' x b → Calls Tryz.prog 69 #[.pointer (some ⟨x, 0, none⟩)] w' (TyTo w' b g go c ts nx' (dp + 1) ex))) :
    Calls Tryz.prog 23 #[.pointer (some ⟨b, 0, none⟩)] w (TyTo w b g go c ts nx' dp ex) := by
  have hbl := h.blt
  have hgl := h.lt
  have H := Lib.hid h
  clear h
  go_enter Tryz.func23, Tryz.ntmps23
  go_wp2_with fail
  obtain ⟨W1, hW1⟩ : ∃ W1, (w.alloc (.cells #[.pointer (some ⟨b, 0, none⟩)] 65)).alloc (.cells #[.int .i64 0, .int .i64 0, .string ⟨#[]⟩, .slice none 0 0, .slice none 0 0, .int .i64 0] 28) = W1 := ⟨_, rfl⟩
  have HPW : Hid (PS W1 b g go c ts nx dp) := by rw [← hW1]; exact H.out.below (((Below.refl _ _).alloc (Nat.le_refl _) _).alloc (by simp) _)
  have HXW : Hid (BoxP W1 w.heap.size b) := by rw [← hW1]; exact (show BoxP (w.alloc (.cells #[.pointer (some ⟨b, 0, none⟩)] 65)) w.heap.size b from heap_alloc_new w _).kept (World.grownBy_alloc _ _ none) (by simp)
  have HEW : Hid (TyBx W1 (w.heap.size + 1) (.int .i64 0) (.int .i64 0) (.string ⟨#[]⟩) (.slice none 0 0) (.slice none 0 0) (.int .i64 0)) := by
    have := TyBx.new (w.alloc (.cells #[.pointer (some ⟨b, 0, none⟩)] 65)) (.int .i64 0) (.int .i64 0) (.string ⟨#[]⟩) (.slice none 0 0) (.slice none 0 0) (.int .i64 0)
    rw [hW1, World.size_alloc] at this; exact this
  have HGW : Hid (w.grownBy W1 (some b)) := by rw [← hW1]; exact grown_trans (World.grownBy_alloc _ _ _) (World.grownBy_alloc _ _ _)
  have hzW : W1.heap.size = w.heap.size + 2 := by rw [← hW1]; simp
  rw [hW1]
  refine (nested_ty w.heap.size b g go c ts nx dp nx' ex W1 HPW.out HXW.out hd (Lib.hid fun w' hg hp hx => HC.out _ w' (grown_trans HGW.out hg) hp hx)).mono ?_
  rintro e w2 ⟨k, n, s, A0, n0, m0, A1, n1, m1, tl, rfl, hr, hw⟩
  have HR := Lib.hid hr
  have HP2 := Lib.hid hw.1
  have HG2 := Lib.hid (grown_trans HGW.out hw.2)
  have HE2 := Lib.hid (HEW.out.kept hw.2 (by simp; omega))
  have e0 := HE2.out.c0
  have e1 := HE2.out.c1
  have e2 := HE2.out.c2
  have e3 := HE2.out.c3
  have e4 := HE2.out.c4
  have e5 := HE2.out.c5
  have r0 := HE2.out.fz 0
  have r1 := HE2.out.fz 1
  have r2 := HE2.out.fz 2
  have r3 := HE2.out.fz 3
  have r4 := HE2.out.fz 4
  have r5 := HE2.out.fz 5
  have HZ := Lib.hid hzW
  clear hr hw hW1 hzW HC
  go_wp2_with fail
  exact bodyPost_ret (res_ft_any rfl (HE2.out.all (.int .i64 k) (.int .i64 n) (.string s) (.slice A0 n0 m0) (.slice A1 n1 m1) (.int .i64 tl))) rfl
    ⟨k, n, s, A0, n0, m0, A1, n1, m1, tl, rfl, (HR.out.keep (Same.of_grown (set6_grown _ _ _ _ _ _ _ _) (fun x hx => by simp; have := HZ.out; omega))).weaken (fun x hx => by have := HZ.out; omega),
      HP2.out.kept (set6_grown _ _ _ _ _ _ _ _) (by simp; omega) (by simp; omega), grown_6 HG2.out (by omega) _ _ _ _ _ _⟩

end Go.Proofs.YtbfojibhdadglaaGreatDoor
/- The parser of types: labels. -/
namespace Go.Proofs.YtbfojibhdadglaaGreatDoor
open Go.RowKit

theorem PS.c3 {w : World} {b g go c : Nat} {ts : List Rt} {nx dp : Nat} (h : PS w b g go c ts nx dp) : w.cell? ⟨b, 3, none⟩ = some (.bool false) := cell_of_row w b 3 _ _ (0, 0) h.blk
set_option maxRecDepth 100000 in
set_option maxHeartbeats 1000000 in
theorem upper_ok (b g go c : Nat) (ts : List Rt) (nx dp : Nat) (t : Rt) (w : World) (h : PS w b g go c ts nx dp) (ht : ts[nx]? = some t) (hk : t.k = 2) (hlen : ts.length ≤ 100000) :
    Calls Tryz.prog 123 #[.pointer (some ⟨b, 0, none⟩)] w fun e w' => e = .returned (.string (strB t.s)) ∧ Went w w' b g go c ts (nx + 1) dp := by
  have HT := Lib.hid (token_ok b g go c ts nx dp t w h ht hlen)
  obtain ⟨tk, tss, tn, tp⟩ := t
  simp only at hk HT ⊢
  subst hk
  obtain ⟨S, hS⟩ : ∃ S, S = strB tss := ⟨_, rfl⟩
  rw [← hS] at HT ⊢
  have fl1 := tfield1
  clear h ht hS
  go_enter Tryz.func123, Tryz.ntmps123
  go_wp2_with (go_at_call 112; refine (HT.out).mono ?_; rintro e w' ⟨rfl, hw⟩; have HW := Lib.hid hw; clear hw)
  go_ret
  exact ⟨rfl, HW.out⟩
/-- a block of two cells -/
def B2 (w : World) (x ty : Nat) (u v : Value) : Prop := w.heap[x]? = some (.cells #[u, v] ty (0, 0))
section
variable {w w' : World} {x ty : Nat} {u v : Value}
theorem B2.lt (h : B2 w x ty u v) : x < w.heap.size := (Array.getElem?_eq_some_iff.1 h).1
theorem B2.c0 (h : B2 w x ty u v) : w.cell? ⟨x, 0, none⟩ = some u := cell_of_row w x 0 _ _ (0, 0) h
theorem B2.c1 (h : B2 w x ty u v) : w.cell? ⟨x, 1, none⟩ = some v := cell_of_row w x 1 _ _ (0, 0) h
theorem B2.fr (h : B2 w x ty u v) (i : Nat) : w.frozen? ⟨x, i, none⟩ = false := by
  unfold B2 at h; simp [World.frozen?, h]
theorem B2.new (w : World) (ty : Nat) (u v : Value) : B2 (w.alloc (.cells #[u, v] ty)) w.heap.size ty u v := heap_alloc_new w _
theorem B2.kept (h : B2 w x ty u v) {row : Option Nat} (hg : w.grownBy w' row) (hne : some x ≠ row) : B2 w' x ty u v := (hg.block x h.lt hne).trans h
theorem B2.set0 (h : B2 w x ty u v) (a : Value) : B2 (w.setCell ⟨x, 0, none⟩ a) x ty a v := by
  unfold B2 at h ⊢; simp [World.setCell, Array.getElem?_modify, h]
theorem B2.set1 (h : B2 w x ty u v) (a : Value) : B2 (w.setCell ⟨x, 1, none⟩ a) x ty u a := by
  unfold B2 at h ⊢; simp [World.setCell, Array.getElem?_modify, h]
end
theorem res_label {tmps : Array Value} {w : World} {g : Nat} {v0 v1 : Value} (h2 : tmps.getD 2 undef = .pointer (some ⟨g, 0, none⟩)) (h : B2 w g 68 v0 v1) :
    (results Tryz.f117 tmps).run Tryz.prog w = .ok (.agg #[v0, v1]) w := by
  have c0 := h.c0
  have c1 := h.c1
  have h2' : tmps[2]?.getD undef = .pointer (some ⟨g, 0, none⟩) := by simpa using h2
  simp [results, Tryz.results117, go_sem, h2', c0, c1]
set_option maxRecDepth 100000 in
set_option maxHeartbeats 1000000 in
theorem label_plain (b g go c : Nat) (ts : List Rt) (nx dp : Nat) (t t1 : Rt) (w : World) (h : PS w b g go c ts nx dp) (ht : ts[nx]? = some t) (hk : t.k = 2) (ht1 : ts[nx + 1]? = some t1) (h1 : t1.s ≠ [64]) (hlen : ts.length ≤ 100000) :
    Calls Tryz.prog 117 #[.pointer (some ⟨b, 0, none⟩)] w fun e w' => e = .returned (.agg #[.string (strB t.s), .int .i64 0]) ∧ Went w w' b g go c ts (nx + 1) dp := by
  have HU := Lib.hid (fun w h => upper_ok b g go c ts nx dp t w h ht hk hlen)
  have HS := Lib.hid (fun w h => skip_no b g go c ts (nx + 1) dp t1 ⟨#[64]⟩ w h ht1 h1)
  have H := Lib.hid h
  have hbl := h.blt
  have hgl := h.lt
  obtain ⟨S, hS⟩ : ∃ S, S = strB t.s := ⟨_, rfl⟩
  rw [← hS] at HU ⊢
  clear h ht hS hk ht1 h1 hlen
  go_enter Tryz.func117, Tryz.ntmps117
  go_wp2_with fail
  have H0 : Hid (PS (w.alloc (.cells #[.string ⟨#[]⟩, .int .i64 0] 68)) b g go c ts nx dp) := Lib.hid (H.out.below ((Below.refl _ _).alloc (Nat.le_refl _) _))
  have HL0 := Lib.hid (B2.new w 68 (.string ⟨#[]⟩) (.int .i64 0))
  refine (HU.out _ H0.out).mono ?_
  rintro e w1 ⟨rfl, hw⟩
  have H1 := Lib.hid hw.1
  have HG1 : Hid (w.grownBy w1 (some b)) := Lib.hid (grown_trans (World.grownBy_alloc w _ _) hw.2)
  have HL1 := Lib.hid (HL0.out.kept hw.2 (by simp; omega))
  have e0 := HL1.out.c0
  have e1 := HL1.out.c1
  have r0 := HL1.out.fr 0
  have r1 := HL1.out.fr 1
  have hz1 := HL1.out.lt
  have q1 : ¬ w.heap.size = b := by omega
  have q2 : ¬ b = w.heap.size := by omega
  have d3 := hw.1.c3
  have hz2 : b < w1.heap.size := hw.1.blt
  clear hw
  go_wp2_with fail
  have hg2 : w1.grownBy (w1.alloc (.cells #[.string S, .int .i64 0] 68)) none := World.grownBy_alloc _ _ _
  have H2 : Hid (PS (w1.alloc (.cells #[.string S, .int .i64 0] 68)) b g go c ts (nx + 1) dp) := Lib.hid (H1.out.below ((Below.refl _ _).alloc (Nat.le_refl _) _))
  have HL2 := Lib.hid (HL1.out.kept hg2 (by simp))
  have HM2 := Lib.hid (B2.new w1 68 (.string S) (.int .i64 0))
  have HG2 := Lib.hid (grown_trans HG1.out (Below.grownBy' hg2))
  clear hg2 e0 e1 r0 r1 d3
  refine (HS.out _ H2.out).mono ?_
  rintro e w3 ⟨rfl, hb⟩
  have HL3 := Lib.hid (HL2.out.kept (grown_below hb none) (by simp))
  have HM3 := Lib.hid (HM2.out.kept (grown_below hb none) (by simp))
  have H3 := Lib.hid (H2.out.below hb)
  have HG3 := Lib.hid (grown_trans HG2.out (grown_below hb _))
  have hz3 := HL3.out.lt
  have hz4 := HM3.out.lt
  have e0 := HL3.out.c0
  have e1 := HL3.out.c1
  have r0 := HL3.out.fr 0
  have r1 := HL3.out.fr 1
  have d0 := HM3.out.c0
  have d1 := HM3.out.c1
  clear hb
  go_wp2_with fail
  exact bodyPost_ret (res_label rfl ((HL3.out.set0 _).set1 _)) rfl ⟨rfl, ((H3.out.other (by omega) (by omega) _).other (by omega) (by omega) _), grown_new (grown_new HG3.out (Nat.le_refl _) _) (Nat.le_refl _) _⟩
set_option maxRecDepth 100000 in
set_option maxHeartbeats 1000000 in
theorem label_at (b g go c : Nat) (ts : List Rt) (nx dp : Nat) (t t1 t2 : Rt) (w : World) (h : PS w b g go c ts nx dp) (ht : ts[nx]? = some t) (hk : t.k = 2) (ht1 : ts[nx + 1]? = some t1) (h1 : t1.s = [64]) (ht2 : ts[nx + 1 + 1]? = some t2) (hk2 : t2.k = 3) (hn2 : t2.n ≠ 0) (hlen : ts.length ≤ 100000) :
    Calls Tryz.prog 117 #[.pointer (some ⟨b, 0, none⟩)] w fun e w' => e = .returned (.agg #[.string (strB t.s), .int .i64 t2.n]) ∧ Went w w' b g go c ts (nx + 1 + 1 + 1) dp := by
  have HU := Lib.hid (fun w h => upper_ok b g go c ts nx dp t w h ht hk hlen)
  have HS := Lib.hid (fun w h => skip_yes b g go c ts (nx + 1) dp t1 ⟨#[64]⟩ w h ht1 h1 hlen)
  have HP := Lib.hid (fun w h => peek_any b g go c ts (nx + 1 + 1) dp t2 w h ht2)
  have HT := Lib.hid (fun w h => token_ok b g go c ts (nx + 1 + 1) dp t2 w h ht2 hlen)
  rw [hk2] at HT
  have fl2 := tfield2
  obtain ⟨T, hT⟩ : ∃ T, T = strB t2.s := ⟨_, rfl⟩
  obtain ⟨m, hm⟩ : ∃ m, m = t2.n := ⟨_, rfl⟩
  rw [← hT, ← hm] at HP HT
  rw [← hm] at hn2 ⊢
  have hm0 : (m == 0) = false := by simpa using hn2
  have H := Lib.hid h
  have hbl := h.blt
  have hgl := h.lt
  obtain ⟨S, hS⟩ : ∃ S, S = strB t.s := ⟨_, rfl⟩
  rw [← hS] at HU ⊢
  clear h ht hS hk ht1 h1 hlen hT hm ht2 hk2 hn2
  go_enter Tryz.func117, Tryz.ntmps117
  go_wp2_with fail
  have H0 : Hid (PS (w.alloc (.cells #[.string ⟨#[]⟩, .int .i64 0] 68)) b g go c ts nx dp) := Lib.hid (H.out.below ((Below.refl _ _).alloc (Nat.le_refl _) _))
  have HL0 := Lib.hid (B2.new w 68 (.string ⟨#[]⟩) (.int .i64 0))
  refine (HU.out _ H0.out).mono ?_
  rintro e w1 ⟨rfl, hw⟩
  have H1 := Lib.hid hw.1
  have HG1 : Hid (w.grownBy w1 (some b)) := Lib.hid (grown_trans (World.grownBy_alloc w _ _) hw.2)
  have HL1 := Lib.hid (HL0.out.kept hw.2 (by simp; omega))
  have e0 := HL1.out.c0
  have e1 := HL1.out.c1
  have r0 := HL1.out.fr 0
  have r1 := HL1.out.fr 1
  have hz1 := HL1.out.lt
  have q1 : ¬ w.heap.size = b := by omega
  have q2 : ¬ b = w.heap.size := by omega
  have d3 := hw.1.c3
  have hz2 : b < w1.heap.size := hw.1.blt
  clear hw
  go_wp2_with fail
  have hg2 : w1.grownBy (w1.alloc (.cells #[.string S, .int .i64 0] 68)) none := World.grownBy_alloc _ _ _
  have H2 : Hid (PS (w1.alloc (.cells #[.string S, .int .i64 0] 68)) b g go c ts (nx + 1) dp) := Lib.hid (H1.out.below ((Below.refl _ _).alloc (Nat.le_refl _) _))
  have HL2 := Lib.hid (HL1.out.kept hg2 (by simp))
  have HM2 := Lib.hid (B2.new w1 68 (.string S) (.int .i64 0))
  have HG2 := Lib.hid (grown_trans HG1.out (Below.grownBy' hg2))
  clear hg2 e0 e1 r0 r1 d3
  refine (HS.out _ H2.out).mono ?_
  rintro e w3 ⟨rfl, hw⟩
  have HL3 := Lib.hid (HL2.out.kept hw.2 (by simp; omega))
  have HM3 := Lib.hid (HM2.out.kept hw.2 (by simp; omega))
  have H3 := Lib.hid hw.1
  have HG3 := Lib.hid (grown_trans HG2.out hw.2)
  have hz1' : w.heap.size < w1.heap.size := hz1
  clear hw
  go_wp2_with fail
  refine (HP.out _ H3.out).mono ?_
  rintro e w4 ⟨rfl, hb⟩
  have HL4 := Lib.hid (HL3.out.kept (grown_below hb none) (by simp))
  have HM4 := Lib.hid (HM3.out.kept (grown_below hb none) (by simp))
  have H4 := Lib.hid (H3.out.below hb)
  have HG4 := Lib.hid (grown_trans HG3.out (grown_below hb _))
  clear hb
  go_wp2_with fail
  refine (HT.out _ H4.out).mono ?_
  rintro e w5 ⟨rfl, hw⟩
  have HL5 := Lib.hid (HL4.out.kept hw.2 (by simp; omega))
  have HM5 := Lib.hid (HM4.out.kept hw.2 (by simp; omega))
  have H5 := Lib.hid hw.1
  have HG5 := Lib.hid (grown_trans HG4.out hw.2)
  have hz3 := HL5.out.lt
  have hz4 := HM5.out.lt
  have e0 := HL5.out.c0
  have e1 := HL5.out.c1
  have r0 := HL5.out.fr 0
  have r1 := HL5.out.fr 1
  have d0 := HM5.out.c0
  have d1 := HM5.out.c1
  have s1 := HM5.out.fr 1
  have q3 : ¬ w.heap.size = w1.heap.size := by omega
  have q4 : ¬ w1.heap.size = w.heap.size := by omega
  clear hw
  go_wp2_with fail
  trace_state
  exact bodyPost_ret (res_label rfl (((HL5.out.kept (grown_set _ ⟨w1.heap.size, 1, none⟩ _) (by simp; omega)).set0 _).set1 _)) rfl ⟨rfl, (((H5.out.other (by omega) (by omega) _).other (by omega) (by omega) _).other (by omega) (by omega) _), grown_new (grown_new (grown_new HG5.out (by omega) _) (Nat.le_refl _) _) (Nat.le_refl _) _⟩
end Go.Proofs.YtbfojibhdadglaaGreatDoor
/- The parser of types: rows. -/
namespace Go.Proofs.YtbfojibhdadglaaGreatDoor
open Go.RowKit

set_option maxRecDepth 100000 in
set_option maxHeartbeats 1000000 in
theorem tail_ok (b g go c : Nat) (ts : List Rt) (nx dp : Nat) (t : Rt) (n : Int) (w : World) (h : PS w b g go c ts nx dp) (ht : ts[nx]? = some t) (hs : t.s = 114 :: Lib.itoa n) (hn : 0 ≤ n ∧ n ≤ 999999999) (hY : Syms w) (hlen : ts.length ≤ 100000) :
    Calls Tryz.prog 118 #[.pointer (some ⟨b, 0, none⟩)] w fun e w' => e = .returned (.int .i64 n) ∧ Went w w' b g go c ts (nx + 1) dp := by
  have HP := Lib.hid (fun w h => peek_any b g go c ts nx dp t w h ht)
  have HN : Hid (NbTo 114 t.s n true) := Lib.hid (by rw [hs]; exact nb_num 114 hn)
  unfold NbTo at HN
  have H := Lib.hid h
  have HY := Lib.hid hY
  have hnx := (List.getElem?_eq_some_iff.1 ht).1
  obtain ⟨tk, tss, tn, tp⟩ := t
  obtain ⟨S, hS⟩ : ∃ S, S = strB tss := ⟨_, rfl⟩
  simp only at HP HN
  rw [← hS] at HP HN
  have fl1 := tfield1
  have hbl := h.blt
  clear h ht hs hn hY hS
  go_enter Tryz.func118, Tryz.ntmps118
  go_wp2_with fail
  refine (HP.out _ H.out).mono ?_
  rintro e w1 ⟨rfl, hb⟩
  have HB1 := Lib.hid hb
  have H1 := Lib.hid (H.out.below hb)
  have HY1 := Lib.hid (HY.out.grown (grown_below hb none) (by simp))
  clear hb
  go_wp2_with fail
  refine (HN.out _ HY1.out).mono ?_
  rintro e w2 ⟨rfl, hb⟩
  have HB2 := Lib.hid hb
  have H2 := Lib.hid (H1.out.below hb)
  have c1 := H2.out.c1
  have f1 := H2.out.fr 1
  clear hb
  go_wp2_with fail
  go_ret
  refine ⟨rfl, ?_, grown_trans (grown_trans (grown_below HB1.out _) (grown_below HB2.out _)) (grown_set _ ⟨b, 1, none⟩ _)⟩
  have := H2.out.set1 (nx + 1)
  rw [Int.natCast_add] at this
  exact this

theorem res_row {tmps : Array Value} {w : World} {g : Nat} {v0 v1 : Value} (h2 : tmps.getD 2 undef = .pointer (some ⟨g, 0, none⟩)) (h : B2 w g 26 v0 v1) :
    (results Tryz.f72 tmps).run Tryz.prog w = .ok (.agg #[v0, v1]) w := by
  have c0 := h.c0
  have c1 := h.c1
  have h2' : tmps[2]?.getD undef = .pointer (some ⟨g, 0, none⟩) := by simpa using h2
  simp [results, Tryz.results72, go_sem, h2', c0, c1]
/-- the world behind the variables that row makes -/
def WR0 (w : World) : World := (w.alloc (.cells #[.slice none 0 0, .int .i64 0] 26)).alloc (.cells #[.slice none 0 0, .int .i64 (-1)] 26)
theorem WR0_below (w : World) : Below w.heap.size w (WR0 w) := ((Below.refl _ _).alloc (Nat.le_refl _) _).alloc (by simp) _
theorem WR0_a (w : World) : B2 (WR0 w) w.heap.size 26 (.slice none 0 0) (.int .i64 0) := (B2.new w 26 _ _).kept (World.grownBy_alloc _ _ none) (by simp)
theorem WR0_b (w : World) : B2 (WR0 w) (w.heap.size + 1) 26 (.slice none 0 0) (.int .i64 (-1)) := by
  have := B2.new (w.alloc (.cells #[.slice none 0 0, .int .i64 0] 26)) 26 (.slice none 0 0) (.int .i64 (-1))
  rw [World.size_alloc] at this
  exact this
set_option maxRecDepth 100000 in
set_option maxHeartbeats 1000000 in
theorem row_none (b g go c : Nat) (ts : List Rt) (nx dp : Nat) (t : Rt) (w : World) (h : PS w b g go c ts nx dp) (ht : ts[nx]? = some t) (hs : t.s ≠ [60]) :
    Calls Tryz.prog 72 #[.pointer (some ⟨b, 0, none⟩)] w fun e w' => e = .returned (.agg #[.slice none 0 0, .int .i64 (-1)]) ∧ Went w w' b g go c ts nx dp := by
  have HS := Lib.hid (fun w h => skip_no b g go c ts nx dp t ⟨#[60]⟩ w h ht hs)
  have H := Lib.hid h
  have hbl := h.blt
  have hgl := h.lt
  clear h ht hs
  go_enter Tryz.func72, Tryz.ntmps72
  go_wp2_with fail
  have H0 := Lib.hid (H.out.below (WR0_below w))
  refine (HS.out _ H0.out).mono ?_
  rintro e w1 ⟨rfl, hb⟩
  have HL1 := Lib.hid ((WR0_a w).kept (grown_below hb none) (by simp))
  have HM1 := Lib.hid ((WR0_b w).kept (grown_below hb none) (by simp))
  have H1 := Lib.hid (H0.out.below hb)
  have HG1 := Lib.hid (grown_trans (grown_below (WR0_below w) (some b)) (grown_below hb _))
  have hz3 := HL1.out.lt
  have hz4 := HM1.out.lt
  have e0 := HL1.out.c0
  have e1 := HL1.out.c1
  have r0 := HL1.out.fr 0
  have r1 := HL1.out.fr 1
  have d0 := HM1.out.c0
  have d1 := HM1.out.c1
  clear hb
  go_wp2_with fail
  exact bodyPost_ret (res_row rfl ((HL1.out.set0 _).set1 _)) rfl ⟨rfl, ((H1.out.other (by omega) (by omega) _).other (by omega) (by omega) _), grown_new (grown_new HG1.out (Nat.le_refl _) _) (Nat.le_refl _) _⟩

/-- the table of symbols lies elsewhere -/
def SyB (w : World) (b : Nat) : Prop := Syms w ∧ 2 ≠ b
theorem SyB.grown {w w' : World} {b : Nat} (h : SyB w b) (hg : w.grownBy w' (some b)) : SyB w' b := ⟨h.1.grown hg (fun e => h.2 (Option.some.inj e)), h.2⟩
/-- the ends of a list of labels -/
def Ends (w : World) (z : Nat) : Prop := B2 w z 9 (.string ⟨#[124]⟩) (.string ⟨#[62]⟩)
/-- a list of labels is read -/
def SepTo (w : World) (b g go c : Nat) (ts : List Rt) (nx dp : Nat) (ls : List (List UInt8 × Int)) (e : Ending) (w' : World) : Prop :=
  ∃ A cap, e = .returned (.slice A ls.length cap) ∧ LabsAt (fun x => w.heap.size ≤ x) w' A ls ∧ (ls.length ≤ cap ∧ cap ≤ maxLen) ∧ Went w w' b g go c ts nx dp
/-- a row is read -/
def RowTo (w : World) (b g go c : Nat) (ts : List Rt) (nx dp : Nat) (ls : List (List UInt8 × Int)) (tl : Int) (e : Ending) (w' : World) : Prop :=
  ∃ A cap, e = .returned (.agg #[.slice A ls.length cap, .int .i64 tl]) ∧ LabsAt (fun x => w.heap.size ≤ x) w' A ls ∧ (ls.length ≤ cap ∧ cap ≤ maxLen) ∧ Went w w' b g go c ts nx dp
set_option maxRecDepth 100000 in
set_option maxHeartbeats 2000000 in
theorem row_plain (b g go c : Nat) (ts : List Rt) (nx nx1 dp : Nat) (t t1 : Rt) (ls : List (List UInt8 × Int)) (w : World) (h : PS w b g go c ts nx dp) (ht : ts[nx]? = some t) (hs : t.s = [60]) (ht1 : ts[nx1]? = some t1) (hs1 : t1.s = [62]) (hlen : ts.length ≤ 100000)
    (HSep : Hid (∀ z w', PS w' b g go c ts (nx + 1) dp → Ends w' z → Calls Tryz.prog 116 #[.pointer (some ⟨b, 0, none⟩), .string ⟨#[44]⟩, .func (.func 117) #[.pointer (some ⟨b, 0, none⟩)] #[], .slice (some ⟨z, 0, none⟩) 2 2] w' (SepTo w' b g go c ts nx1 dp ls))) :
    Calls Tryz.prog 72 #[.pointer (some ⟨b, 0, none⟩)] w (RowTo w b g go c ts (nx1 + 1) dp ls (-1)) := by
  have HS := Lib.hid (fun w h => skip_yes b g go c ts nx dp t ⟨#[60]⟩ w h ht hs hlen)
  have HS1 := Lib.hid (fun w h => skip_no b g go c ts nx1 dp t1 ⟨#[124]⟩ w h ht1 (by rw [hs1]; decide))
  have HN3 := Lib.hid (fun w h => need_ok b g go c ts nx1 dp t1 ⟨#[62]⟩ w h ht1 hs1 hlen)
  have hmf : ∀ (fn : Fn) (first cap : Array Value) (w : World), (Instr.makeFunc fn first cap).run Tryz.prog w = .ok (.func fn first cap) w := fun _ _ _ _ => rfl
  have H := Lib.hid h
  have hbl := h.blt
  have hgl := h.lt
  clear h ht hs ht1 hs1
  go_enter Tryz.func72, Tryz.ntmps72
  go_wp2_with fail
  have H0 := Lib.hid (H.out.below (WR0_below w))
  refine (HS.out _ H0.out).mono ?_
  rintro e w1 ⟨rfl, hw⟩
  have HL1 := Lib.hid ((WR0_a w).kept hw.2 (by simp; omega))
  have HM1 := Lib.hid ((WR0_b w).kept hw.2 (by simp; omega))
  have H1 := Lib.hid hw.1
  have HG1 := Lib.hid (grown_trans (grown_below (WR0_below w) (some b)) hw.2)
  have hz1 : w.heap.size + 1 < w1.heap.size := HM1.out.lt
  clear hw
  go_wp2_with fail
  have hg2 : w1.grownBy (w1.alloc (.cells #[.string ⟨#[124]⟩, .string ⟨#[62]⟩] 9)) none := World.grownBy_alloc _ _ _
  refine (HSep.out _ _ (H1.out.kept hg2 (by simp) (by simp)) (B2.new w1 9 _ _)).mono ?_
  rintro e w3 ⟨A, cap, rfl, hla, hcp, hw⟩
  have hg3 := grown_trans (Below.grownBy' (row := some b) hg2) hw.2
  have HL3 := Lib.hid (HL1.out.kept hg3 (by simp; omega))
  have HM3 := Lib.hid (HM1.out.kept hg3 (by simp; omega))
  have H3 := Lib.hid hw.1
  have HG3 := Lib.hid (grown_trans HG1.out hg3)
  have HA3 := Lib.hid (hla.weaken (Q := fun x => w1.heap.size < x) (fun x hx => by simp at hx; omega))
  have HC := Lib.hid hcp
  have hz3 := hg3.size
  have d3 := hw.1.c3
  have r0 := HM3.out.fr 0
  have d0 := HM3.out.c0
  have q1 : ¬ w.heap.size + 1 = b := by omega
  have q2 : ¬ b = w.heap.size + 1 := by omega
  clear hw hg2 hg3 hla hcp HSep HS
  go_wp2_with fail
  have HL4 := Lib.hid (HL3.out.kept (grown_set w3 ⟨w.heap.size + 1, 0, none⟩ (.slice A ls.length cap)) (by simp))
  have HM4 := Lib.hid (HM3.out.set0 (.slice A ls.length cap))
  have H4 := Lib.hid (H3.out.other (x := w.heap.size + 1) (o := 0) (by omega) (by omega) (.slice A ls.length cap))
  have HG4 := Lib.hid (grown_new HG3.out (x := w.heap.size + 1) (o := 0) (by omega) (.slice A ls.length cap))
  have HA4 := Lib.hid (HA3.out.keep (Same.of_grown (grown_set w3 ⟨w.heap.size + 1, 0, none⟩ (.slice A ls.length cap)) (fun x hx => by simp; omega)))
  obtain ⟨W4, hW4⟩ : ∃ W4, w3.setCell ⟨w.heap.size + 1, 0, none⟩ (.slice A ls.length cap) = W4 := ⟨_, rfl⟩
  rw [hW4] at HL4 HM4 H4 HG4 HA4 ⊢
  have hz4 : w1.heap.size ≤ W4.heap.size := by rw [← hW4, size_set]; omega
  clear hW4 d3 r0 d0
  refine (HS1.out _ H4.out).mono ?_
  rintro e W7 ⟨rfl, hb⟩
  have HL7 := Lib.hid (HL4.out.kept (grown_below hb none) (by simp))
  have HM7 := Lib.hid (HM4.out.kept (grown_below hb none) (by simp))
  have H7 := Lib.hid (H4.out.below hb)
  have HG7 := Lib.hid (grown_trans HG4.out (grown_below hb _))
  have HA7 := Lib.hid (HA4.out.keep (Same.of_below hb))
  have hz7 := hb.size
  clear hb
  go_wp2_with fail
  refine (HN3.out _ H7.out).mono ?_
  rintro e w8 ⟨rfl, hw⟩
  have HL8 := Lib.hid (HL7.out.kept hw.2 (by simp; omega))
  have HM8 := Lib.hid (HM7.out.kept hw.2 (by simp; omega))
  have H8 := Lib.hid hw.1
  have HG8 := Lib.hid (grown_trans HG7.out hw.2)
  have HA8 := Lib.hid (HA7.out.keep (Same.of_grown hw.2 (fun x hx => by simp; omega)))
  have e0 := HL8.out.c0
  have e1 := HL8.out.c1
  have r0 := HL8.out.fr 0
  have r1 := HL8.out.fr 1
  have d0 := HM8.out.c0
  have d1 := HM8.out.c1
  clear hw
  go_wp2_with fail
  exact bodyPost_ret (res_row rfl ((HL8.out.set0 _).set1 _)) rfl ⟨A, cap, rfl,
    ((HA8.out.keep (Same.of_grown (grown_set _ ⟨w.heap.size, 0, none⟩ _) (fun x hx => by simp; omega))).keep (Same.of_grown (grown_set _ ⟨w.heap.size, 1, none⟩ _) (fun x hx => by simp; omega))).weaken (fun x hx => by omega), HC.out,
    ((H8.out.other (by omega) (by omega) _).other (by omega) (by omega) _), grown_new (grown_new HG8.out (Nat.le_refl _) _) (Nat.le_refl _) _⟩
set_option maxRecDepth 100000 in
set_option maxHeartbeats 2000000 in
theorem row_tail (b g go c : Nat) (ts : List Rt) (nx nx1 dp : Nat) (t t1 t2 t3 : Rt) (ls : List (List UInt8 × Int)) (w : World) (h : PS w b g go c ts nx dp) (ht : ts[nx]? = some t) (hs : t.s = [60]) (ht1 : ts[nx1]? = some t1) (hs1 : t1.s = [124]) (ht2 : ts[nx1 + 1]? = some t2) (n : Int) (hs2 : t2.s = 114 :: Lib.itoa n) (hn : 0 ≤ n ∧ n ≤ 999999999) (ht3 : ts[nx1 + 1 + 1]? = some t3) (hs3 : t3.s = [62]) (hY : SyB w b) (hlen : ts.length ≤ 100000)
    (HSep : Hid (∀ z w', PS w' b g go c ts (nx + 1) dp → Ends w' z → Calls Tryz.prog 116 #[.pointer (some ⟨b, 0, none⟩), .string ⟨#[44]⟩, .func (.func 117) #[.pointer (some ⟨b, 0, none⟩)] #[], .slice (some ⟨z, 0, none⟩) 2 2] w' (SepTo w' b g go c ts nx1 dp ls))) :
    Calls Tryz.prog 72 #[.pointer (some ⟨b, 0, none⟩)] w (RowTo w b g go c ts (nx1 + 1 + 1 + 1) dp ls n) := by
  have HS := Lib.hid (fun w h => skip_yes b g go c ts nx dp t ⟨#[60]⟩ w h ht hs hlen)
  have HS1 := Lib.hid (fun w h => skip_yes b g go c ts nx1 dp t1 ⟨#[124]⟩ w h ht1 hs1 hlen)
  have HT2 := Lib.hid (fun w h hY => tail_ok b g go c ts (nx1 + 1) dp t2 n w h ht2 hs2 hn hY hlen)
  have HN3 := Lib.hid (fun w h => need_ok b g go c ts (nx1 + 1 + 1) dp t3 ⟨#[62]⟩ w h ht3 hs3 hlen)
  have HY := Lib.hid hY
  have hmf : ∀ (fn : Fn) (first cap : Array Value) (w : World), (Instr.makeFunc fn first cap).run Tryz.prog w = .ok (.func fn first cap) w := fun _ _ _ _ => rfl
  have H := Lib.hid h
  have hbl := h.blt
  have hgl := h.lt
  clear h ht hs ht1 hs1 ht2 hs2 hn ht3 hs3 hY
  go_enter Tryz.func72, Tryz.ntmps72
  go_wp2_with fail
  have H0 := Lib.hid (H.out.below (WR0_below w))
  refine (HS.out _ H0.out).mono ?_
  rintro e w1 ⟨rfl, hw⟩
  have HL1 := Lib.hid ((WR0_a w).kept hw.2 (by simp; omega))
  have HM1 := Lib.hid ((WR0_b w).kept hw.2 (by simp; omega))
  have H1 := Lib.hid hw.1
  have HG1 := Lib.hid (grown_trans (grown_below (WR0_below w) (some b)) hw.2)
  have hz1 : w.heap.size + 1 < w1.heap.size := HM1.out.lt
  clear hw
  go_wp2_with fail
  have hg2 : w1.grownBy (w1.alloc (.cells #[.string ⟨#[124]⟩, .string ⟨#[62]⟩] 9)) none := World.grownBy_alloc _ _ _
  refine (HSep.out _ _ (H1.out.kept hg2 (by simp) (by simp)) (B2.new w1 9 _ _)).mono ?_
  rintro e w3 ⟨A, cap, rfl, hla, hcp, hw⟩
  have hg3 := grown_trans (Below.grownBy' (row := some b) hg2) hw.2
  have HL3 := Lib.hid (HL1.out.kept hg3 (by simp; omega))
  have HM3 := Lib.hid (HM1.out.kept hg3 (by simp; omega))
  have H3 := Lib.hid hw.1
  have HG3 := Lib.hid (grown_trans HG1.out hg3)
  have HA3 := Lib.hid (hla.weaken (Q := fun x => w1.heap.size < x) (fun x hx => by simp at hx; omega))
  have HC := Lib.hid hcp
  have hz3 := hg3.size
  have d3 := hw.1.c3
  have r0 := HM3.out.fr 0
  have d0 := HM3.out.c0
  have q1 : ¬ w.heap.size + 1 = b := by omega
  have q2 : ¬ b = w.heap.size + 1 := by omega
  clear hw hg2 hg3 hla hcp HSep HS
  go_wp2_with fail
  have HL4 := Lib.hid (HL3.out.kept (grown_set w3 ⟨w.heap.size + 1, 0, none⟩ (.slice A ls.length cap)) (by simp))
  have HM4 := Lib.hid (HM3.out.set0 (.slice A ls.length cap))
  have H4 := Lib.hid (H3.out.other (x := w.heap.size + 1) (o := 0) (by omega) (by omega) (.slice A ls.length cap))
  have HG4 := Lib.hid (grown_new HG3.out (x := w.heap.size + 1) (o := 0) (by omega) (.slice A ls.length cap))
  have HA4 := Lib.hid (HA3.out.keep (Same.of_grown (grown_set w3 ⟨w.heap.size + 1, 0, none⟩ (.slice A ls.length cap)) (fun x hx => by simp; omega)))
  obtain ⟨W4, hW4⟩ : ∃ W4, w3.setCell ⟨w.heap.size + 1, 0, none⟩ (.slice A ls.length cap) = W4 := ⟨_, rfl⟩
  rw [hW4] at HL4 HM4 H4 HG4 HA4 ⊢
  have hz4 : w1.heap.size ≤ W4.heap.size := by rw [← hW4, size_set]; omega
  clear hW4 d3 r0 d0
  refine (HS1.out _ H4.out).mono ?_
  rintro e w5 ⟨rfl, hw⟩
  have HL5 := Lib.hid (HL4.out.kept hw.2 (by simp; omega))
  have HM5 := Lib.hid (HM4.out.kept hw.2 (by simp; omega))
  have H5 := Lib.hid hw.1
  have HG5 := Lib.hid (grown_trans HG4.out hw.2)
  have HA5 := Lib.hid (HA4.out.keep (Same.of_grown hw.2 (fun x hx => by simp; omega)))
  have HY5 := Lib.hid (HY.out.grown HG5.out)
  have hz5 := hw.2.size
  clear hw
  go_wp2_with fail
  refine (HT2.out _ H5.out HY5.out.1).mono ?_
  rintro e w6 ⟨rfl, hw⟩
  have HL6 := Lib.hid (HL5.out.kept hw.2 (by simp; omega))
  have HM6 := Lib.hid (HM5.out.kept hw.2 (by simp; omega))
  have H6 := Lib.hid hw.1
  have HG6 := Lib.hid (grown_trans HG5.out hw.2)
  have HA6 := Lib.hid (HA5.out.keep (Same.of_grown hw.2 (fun x hx => by simp; omega)))
  have hz6 := hw.2.size
  have d1 := HM6.out.c1
  have r1 := HM6.out.fr 1
  clear hw
  go_wp2_with fail
  have HL7 := Lib.hid (HL6.out.kept (grown_set w6 ⟨w.heap.size + 1, 1, none⟩ (.int .i64 n)) (by simp))
  have HM7 := Lib.hid (HM6.out.set1 (.int .i64 n))
  have H7 := Lib.hid (H6.out.other (x := w.heap.size + 1) (o := 1) (by omega) (by omega) (.int .i64 n))
  have HG7 := Lib.hid (grown_new HG6.out (x := w.heap.size + 1) (o := 1) (by omega) (.int .i64 n))
  have HA7 := Lib.hid (HA6.out.keep (Same.of_grown (grown_set w6 ⟨w.heap.size + 1, 1, none⟩ (.int .i64 n)) (fun x hx => by simp; omega)))
  obtain ⟨W7, hW7⟩ : ∃ W7, w6.setCell ⟨w.heap.size + 1, 1, none⟩ (.int .i64 n) = W7 := ⟨_, rfl⟩
  rw [hW7] at HL7 HM7 H7 HG7 HA7 ⊢
  have hz7 : w1.heap.size ≤ W7.heap.size := by rw [← hW7, size_set]; omega
  clear hW7 d1 r1
  refine (HN3.out _ H7.out).mono ?_
  rintro e w8 ⟨rfl, hw⟩
  have HL8 := Lib.hid (HL7.out.kept hw.2 (by simp; omega))
  have HM8 := Lib.hid (HM7.out.kept hw.2 (by simp; omega))
  have H8 := Lib.hid hw.1
  have HG8 := Lib.hid (grown_trans HG7.out hw.2)
  have HA8 := Lib.hid (HA7.out.keep (Same.of_grown hw.2 (fun x hx => by simp; omega)))
  have e0 := HL8.out.c0
  have e1 := HL8.out.c1
  have r0 := HL8.out.fr 0
  have r1 := HL8.out.fr 1
  have d0 := HM8.out.c0
  have d1 := HM8.out.c1
  clear hw
  go_wp2_with fail
  exact bodyPost_ret (res_row rfl ((HL8.out.set0 _).set1 _)) rfl ⟨A, cap, rfl,
    ((HA8.out.keep (Same.of_grown (grown_set _ ⟨w.heap.size, 0, none⟩ _) (fun x hx => by simp; omega))).keep (Same.of_grown (grown_set _ ⟨w.heap.size, 1, none⟩ _) (fun x hx => by simp; omega))).weaken (fun x hx => by omega), HC.out,
    ((H8.out.other (by omega) (by omega) _).other (by omega) (by omega) _), grown_new (grown_new HG8.out (Nat.le_refl _) _) (Nat.le_refl _) _⟩
end Go.Proofs.YtbfojibhdadglaaGreatDoor
/- The parser of types: the labels of a row. -/
namespace Go.Proofs.YtbfojibhdadglaaGreatDoor
open Go.RowKit

def labCells (L : List (List UInt8 × Int)) : List Value := L.flatMap fun x => [.string (strB x.1), .int .i64 x.2]
theorem labCells_snoc (L : List (List UInt8 × Int)) (x : List UInt8 × Int) : labCells (L ++ [x]) = labCells L ++ [.string (strB x.1), .int .i64 x.2] := by simp [labCells]
theorem labCells_at : ∀ (L : List (List UInt8 × Int)) (j : Nat) (x : List UInt8 × Int), L[j]? = some x → (labCells L)[j * 2]? = some (.string (strB x.1)) ∧ (labCells L)[j * 2 + 1]? = some (.int .i64 x.2)
  | [], j, x, h => by simp at h
  | y :: r, 0, x, h => by
    simp only [List.getElem?_cons_zero, Option.some.injEq] at h
    subst h
    exact ⟨rfl, rfl⟩
  | y :: r, j + 1, x, h => by
    simp only [List.getElem?_cons_succ] at h
    obtain ⟨i1, i2⟩ := labCells_at r j x h
    have e : labCells (y :: r) = .string (strB y.1) :: .int .i64 y.2 :: labCells r := rfl
    rw [e, show (j + 1) * 2 = j * 2 + 1 + 1 by omega]
    exact ⟨by simpa using i1, by simpa using i2⟩
theorem own_labs {base : Nat} {w : World} {A : Option Addr} {n c : Nat} {L : List (List UInt8 × Int)} (hn : n = L.length) (ho : w.ownsRow base 68 2 (.slice A n c) n (labCells L)) :
    LabsAt (fun x => base ≤ x) w A L ∧ n ≤ c ∧ c ≤ maxLen := by
  rcases ho.2 with ⟨e, h0⟩ | ⟨g, cap, cur, e, hb, hg, h1, h2, _⟩
  · injection e with e1 e2 e3
    subst e1 e3
    have : L = [] := List.length_eq_zero_iff.1 (by omega)
    subst this
    exact ⟨fun h => absurd rfl h, by omega, by unfold maxLen; omega⟩
  · injection e with e1 e2 e3
    subst e1 e3
    refine ⟨fun _ => ⟨g, 0, rfl, hb, (Array.getElem?_eq_some_iff.1 hg).1, fun j x hj => ?_⟩, h1, h2⟩
    have hjl := (List.getElem?_eq_some_iff.1 hj).1
    obtain ⟨i1, i2⟩ := labCells_at L j x hj
    rw [Nat.zero_add]
    exact ⟨(ho.cellAt (j * 2) (by omega)).trans i1, (ho.cellAt (j * 2 + 1) (by omega)).trans i2⟩
def slLen : Value → Nat
  | .slice _ n _ => n
  | _ => 0
theorem infoL : (Tryz.prog.info? 68).map (fun i => (i.zero, i.size, i.bytes)) = some (some (.agg #[.string ⟨#[]⟩, .int .i64 0]), 2, 24) := by kernel_rfl
theorem cell_lab (w : World) (a : ByteArray) (n : Int) (t : TypeId) : ∀ j u, ([.string a, .int .i64 n] : List Value)[j]? = some u → (w.alloc (.cells #[.string a, .int .i64 n] t)).cell? ((⟨w.heap.size, 0, none⟩ : Addr).add j) = some u := by
  intro j u hj
  match j, hj with
  | 0, hj => simp at hj; subst hj; simp [Addr.add]
  | 1, hj => simp at hj; subst hj; simp [Addr.add]
  | j + 2, hj => simp at hj
theorem cell_lab2 (w : World) (a : ByteArray) (n : Int) : ∀ j u, ([.string a, .int .i64 n] : List Value)[j]? = some u → ((w.alloc (.cells #[.string a, .int .i64 n] 68)).alloc (.cells #[.string a, .int .i64 n] 68)).cell? ((⟨w.heap.size + 1, 0, none⟩ : Addr).add j) = some u := by
  have := cell_lab (w.alloc (.cells #[.string a, .int .i64 n] 68)) a n 68
  rw [World.size_alloc] at this
  exact this
theorem lab_one (a : ByteArray) (n : Int) : ∀ u ∈ ([.string a, .int .i64 n] : List Value), u.oneCell' = true := by
  intro u hu
  simp only [List.mem_cons, List.not_mem_nil, or_false] at hu
  rcases hu with rfl | rfl <;> rfl
theorem ends_names {w : World} {z : Nat} (h : Ends w z) : NamesAt (fun _ => True) w (some ⟨z, 0, none⟩) [[124], [62]] := fun _ =>
  ⟨z, 0, rfl, trivial, B2.lt h, fun j x hj => by
    match j, hj with
    | 0, hj => simp at hj; subst hj; exact B2.c0 h
    | 1, hj => simp at hj; subst hj; exact B2.c1 h
    | j + 2, hj => simp at hj⟩

theorem own_apart {w : World} {base : Nat} {T : TypeId} {size : Nat} {A : Option Addr} {n c m : Nat} {xs : List Value} {b : Nat} (h : w.ownsRow base T size (.slice A n c) m xs) (hb : b < base) : (Value.slice A n c).ownBlock = none ∨ (Value.slice A n c).ownBlock ≠ some b := by
  rcases h.2 with ⟨e, _⟩ | ⟨g, cap, cur, e, hg, _⟩
  · rw [e]; exact .inl rfl
  · rw [e]
    refine .inr fun e2 => ?_
    have : g = b := Option.some.inj e2
    omega
theorem own_from {w : World} {base : Nat} {T : TypeId} {size : Nat} {v : Value} {m : Nat} {xs : List Value} {k : Nat} (h : w.ownsRow base T size v m xs) (hk : v.ownBlock = some k) : base ≤ k := by
  rcases h.2 with ⟨e, _⟩ | ⟨g, cap, cur, e, hg, _⟩
  · rw [e] at hk; cases hk
  · rw [e] at hk
    have : g = k := Option.some.inj hk
    omega
theorem own_ne {w : World} {base : Nat} {T : TypeId} {size : Nat} {v : Value} {m : Nat} {xs : List Value} {b : Nat} (h : w.ownsRow base T size v m xs) (hb : b < base) : some b ≠ v.ownBlock := fun e => by
  have := own_from h e.symm
  omega
theorem grown_own {w W W' : World} {row r : Option Nat} (h : w.grownBy W row) (hg : W.grownBy W' r) (hr : ∀ k, r = some k → w.heap.size ≤ k) : w.grownBy W' row :=
  ⟨hg.os.trans h.os, hg.tape.trans h.tape, hg.output.trans h.output, Nat.le_trans h.size hg.size, fun k hk hne => (hg.block k (Nat.lt_of_lt_of_le hk h.size) (fun e => by have := hr k e.symm; omega)).trans (h.block k hk hne)⟩
set_option maxRecDepth 100000 in
set_option maxHeartbeats 4000000 in
theorem sep_any (b g go c z : Nat) (ts : List Rt) (nx dp : Nat) (L : List (List UInt8 × Int)) (hd : Nat → Nat) (w : World) (h : PS w b g go c ts nx dp) (hz : Ends w z) (h0 : hd 0 = nx) (hL : L.length ≤ 100000) (hlen : ts.length ≤ 100000)
    (hlab : ∀ kk x, L[kk]? = some x → ∀ w', PS w' b g go c ts (if kk = 0 then nx else hd kk + 1) dp → Calls Tryz.prog 117 #[.pointer (some ⟨b, 0, none⟩)] w' fun e w2 => e = .returned (.agg #[.string (strB x.1), .int .i64 x.2]) ∧ Went w' w2 b g go c ts (hd (kk + 1)) dp)
    (hcomma : ∀ kk, 0 < kk → kk < L.length → ∃ t, ts[hd kk]? = some t ∧ t.s = [44])
    (hfirst : 0 < L.length → ∃ t, ts[nx]? = some t ∧ t.s ≠ [124] ∧ t.s ≠ [62])
    (hend : ∃ t, ts[hd L.length]? = some t ∧ (t.s = [124] ∨ t.s = [62])) :
    Calls Tryz.prog 116 #[.pointer (some ⟨b, 0, none⟩), .string ⟨#[44]⟩, .func (.func 117) #[.pointer (some ⟨b, 0, none⟩)] #[], .slice (some ⟨z, 0, none⟩) 2 2] w (SepTo w b g go c ts (hd L.length) dp L) := by
  obtain ⟨i0, hi, hz0, hz1, hz2⟩ := info_parts infoL
  have hzb : z ≠ b := by
    rintro rfl
    have h1 := h.blk
    unfold Ends B2 at hz
    rw [hz] at h1
    injection h1 with h1; injection h1 with h2 _; cases h2
  have H := Lib.hid h
  have hbl := h.blt
  have hgl := h.lt
  have HE := Lib.hid hz
  have HL := Lib.hid hlab
  have HC := Lib.hid hcomma
  have HF := Lib.hid hfirst
  have HD := Lib.hid hend
  obtain ⟨n, hn⟩ : ∃ n, n = L.length := ⟨_, rfl⟩
  have HN := Lib.hid hn
  have hn2 : n ≤ 100000 := by omega
  have H0 := Lib.hid h0
  rw [← hn] at HC HF HD
  clear h hz hlab hcomma hfirst hend hn hL h0
  go_enter Tryz.func116, Tryz.ntmps116
  go_wp2_with fail
  go_step3
  go_wp2_with fail
  go_step3
  go_wp2_with fail
  go_loopw [8, 9] (fun v f wr => ∃ (kk : Nat) (A' : Option Addr) (c' : Nat), kk ≤ n ∧ ((kk = 0 ∧ f = .bool true) ∨ (0 < kk ∧ f = .bool false)) ∧ v = .slice A' kk c' ∧ Hid (wr.ownsRow w.heap.size 68 2 (.slice A' kk c') kk (labCells (L.take kk))) ∧ Hid (PS wr b g go c ts (hd kk) dp) ∧ Hid (w.grownBy wr (some b))) (fun v _ _ => n - slLen v)
  case atStart => exact ⟨0, none, 0, Nat.zero_le _, .inl ⟨rfl, rfl⟩, rfl, Lib.hid (World.ownsRow_nil _ _ _ _), by rw [H0.out]; exact H, Lib.hid ⟨rfl, rfl, rfl, Nat.le_refl _, fun _ _ _ => rfl⟩⟩
  case round =>
    obtain ⟨kk, A', c', hkk, hf, rfl, hO, hP, hG⟩ := hrel
    rcases hf with ⟨h0, rfl⟩ | ⟨h0, rfl⟩
    · subst h0
      by_cases hn0 : n = 0
      · obtain ⟨t, ht, hts⟩ := HD.out
        rw [hn0] at ht
        have HPk := Lib.hid (peek_any b g go c ts (hd 0) dp t wr hP.out ht)
        have HE1 := Lib.hid (ends_names (HE.out.kept hG.out (by simp; exact hzb)))
        obtain ⟨S, hS⟩ : ∃ S, S = strB t.s := ⟨_, rfl⟩
        have HCt : Hid (∀ w', Below wr.heap.size wr w' → Calls Tryz.prog 155 #[.slice (some ⟨z, 0, none⟩) 2 2, .string S] w' fun e w'' => e = .returned (.bool true) ∧ w' = w'') := Lib.hid (fun w' hb => by
          have := contains_any (fun _ => True) (some ⟨z, 0, none⟩) 2 [[124], [62]] t.s w' (HE1.out.keep (Same.of_below hb)) (by unfold maxLen; simp)
          rw [show ([[124], [62]] : List (List UInt8)).contains t.s = true by rcases hts with e | e <;> rw [e] <;> rfl, ← hS] at this
          exact this)
        rw [← hS] at HPk
        have fl1 := tfield1
        clear hS hts ht
        go_wp2_with fail
        refine HPk.out.mono ?_
        rintro e w1 ⟨rfl, hb⟩
        have HB := Lib.hid hb
        have HP1 := Lib.hid (hP.out.below hb)
        have HO1 := Lib.hid (hO.out.kept (grown_below hb none) (by cases (Value.slice A' 0 c').ownBlock <;> simp))
        have HG1 := Lib.hid (grown_trans hG.out (grown_below hb _))
        clear hb
        go_wp2_with fail
        refine (HCt.out _ HB.out).mono ?_
        rintro e w2 ⟨rfl, rfl⟩
        go_wp2_with fail
        subst hn0
        rw [Exit.noGoto_ret]
        go_ret
        obtain ⟨l1, l2, l3⟩ := own_labs (L := L) HN.out (by have h := HO1.out; rw [List.take_of_length_le (by rw [← HN.out]; exact Nat.le_refl _)] at h; exact h)
        exact ⟨A', c', by rw [← HN.out]; rfl, l1, by rw [← HN.out]; exact ⟨l2, l3⟩, by rw [← HN.out]; exact ⟨HP1.out, HG1.out⟩⟩
      · have hn1 : 0 < n := Nat.pos_of_ne_zero hn0
        obtain ⟨t, ht, hs1, hs2⟩ := HF.out hn1
        rw [← H0.out] at ht
        obtain ⟨x, hx⟩ : ∃ x, x = L[0]'(by rw [← HN.out]; exact hn1) := ⟨_, rfl⟩
        have HX : Hid (L[0]? = some x) := Lib.hid (by rw [hx]; exact List.getElem?_eq_getElem _)
        have HPk := Lib.hid (peek_any b g go c ts (hd 0) dp t wr hP.out ht)
        have HE1 := Lib.hid (ends_names (HE.out.kept hG.out (by simp; exact hzb)))
        obtain ⟨S, hS⟩ : ∃ S, S = strB t.s := ⟨_, rfl⟩
        have HCt : Hid (∀ w', Below wr.heap.size wr w' → Calls Tryz.prog 155 #[.slice (some ⟨z, 0, none⟩) 2 2, .string S] w' fun e w'' => e = .returned (.bool false) ∧ w' = w'') := Lib.hid (fun w' hb => by
          have := contains_any (fun _ => True) (some ⟨z, 0, none⟩) 2 [[124], [62]] t.s w' (HE1.out.keep (Same.of_below hb)) (by unfold maxLen; simp)
          rw [show ([[124], [62]] : List (List UInt8)).contains t.s = false by
            cases hc : ([[124], [62]] : List (List UInt8)).contains t.s with
            | false => rfl
            | true =>
              rw [List.contains_iff_mem] at hc
              simp only [List.mem_cons, List.not_mem_nil, or_false] at hc
              rcases hc with e | e
              · exact absurd e hs1
              · exact absurd e hs2, ← hS] at this
          exact this)
        rw [← hS] at HPk
        have fl1 := tfield1
        clear hS hs1 hs2 ht hx
        go_wp2_with fail
        refine HPk.out.mono ?_
        rintro e w1 ⟨rfl, hb⟩
        have HB := Lib.hid hb
        have HP1 := Lib.hid (hP.out.below hb)
        have HO1 := Lib.hid (hO.out.kept (grown_below hb none) (by cases (Value.slice A' 0 c').ownBlock <;> simp))
        have HG1 := Lib.hid (grown_trans hG.out (grown_below hb _))
        clear hb
        go_wp2_with fail
        refine (HCt.out _ HB.out).mono ?_
        rintro e w2 ⟨rfl, rfl⟩
        go_wp2_with fail
        have HLb := Lib.hid (HL.out _ x HX.out)
        rw [if_pos rfl, ← H0.out] at HLb
        obtain ⟨X, hXe⟩ : ∃ X, X = strB x.1 := ⟨_, rfl⟩
        rw [← hXe] at HLb
        have HTk : Hid (labCells (L.take (0 + 1)) = labCells (L.take 0) ++ [.string X, .int .i64 x.2]) := Lib.hid (by
          have h1 : L.take (0 + 1) = L.take 0 ++ [x] := by rw [List.take_add_one, HX.out]; rfl
          rw [h1, labCells_snoc, hXe])
        clear hXe
        refine (HLb.out _ HP1.out).mono ?_
        rintro e w3 ⟨rfl, hw⟩
        have HO3 := Lib.hid (HO1.out.kept hw.2 (own_apart HO1.out hbl))
        have HG3 := Lib.hid (grown_trans HG1.out hw.2)
        have HP3 := Lib.hid hw.1
        have hz3 := HG3.out.size
        clear hw HLb
        go_wp2_with (at_builtin; refine wpList_append_own _ rfl _ _ 24 rfl w.heap.size 68 i0 (.agg #[.string ⟨#[]⟩, .int .i64 0]) 2 24 Tryz.underlying24 hi hz0 hz1 hz2 rfl (by decide) _ _ _ rfl ((HO3.out.alloc _).alloc _) ⟨w3.heap.size + 1, 0, none⟩ 1 1 [.string X, .int .i64 x.2] rfl rfl (cell_lab2 w3 X x.2) (lab_one _ _) (by unfold maxLen; omega) (by omega) (by simp; omega) ?_; intro v' w4 hown' hgrow _; obtain ⟨A3, c3, rfl⟩ := own_slice hown'; have HO4 := Lib.hid hown'; have HP4 := Lib.hid ((HP3.out.kept (grown_trans (World.grownBy_alloc w3 _ none) (World.grownBy_alloc _ _ none)) (by simp) (by simp)).kept hgrow (own_ne HO3.out hbl) (own_ne HO3.out hgl)); have HG4 := Lib.hid (grown_own (grown_trans HG3.out (grown_trans (World.grownBy_alloc w3 _ _) (World.grownBy_alloc _ _ _))) hgrow (fun k hk => own_from HO3.out hk)); clear hown' hgrow)
        go_roundw
        case rel => exact ⟨0 + 1, A3, c3, by omega, .inr ⟨by omega, rfl⟩, rfl, Lib.hid (by rw [HTk.out]; exact HO4.out), HP4, HG4⟩
        case measure => simp [slLen]; omega
    · have hks : kk ≠ 0 := by omega
      by_cases hkn : kk < n
      · obtain ⟨t, ht, hts⟩ := HC.out kk h0 hkn
        obtain ⟨x, hx⟩ : ∃ x, x = L[kk]'(by rw [← HN.out]; exact hkn) := ⟨_, rfl⟩
        have HX : Hid (L[kk]? = some x) := Lib.hid (by rw [hx]; exact List.getElem?_eq_getElem _)
        have HSk := Lib.hid (skip_yes b g go c ts (hd kk) dp t ⟨#[44]⟩ wr hP.out ht hts hlen)
        clear hts ht hx
        go_wp2_with fail
        refine HSk.out.mono ?_
        rintro e w1 ⟨rfl, hw⟩
        have HP1 := Lib.hid hw.1
        have HO1 := Lib.hid (hO.out.kept hw.2 (own_apart hO.out hbl))
        have HG1 := Lib.hid (grown_trans hG.out hw.2)
        clear hw
        go_wp2_with fail
        have HLb := Lib.hid (HL.out _ x HX.out)
        rw [if_neg hks] at HLb
        obtain ⟨X, hXe⟩ : ∃ X, X = strB x.1 := ⟨_, rfl⟩
        rw [← hXe] at HLb
        have HTk : Hid (labCells (L.take (kk + 1)) = labCells (L.take kk) ++ [.string X, .int .i64 x.2]) := Lib.hid (by
          have h1 : L.take (kk + 1) = L.take kk ++ [x] := by rw [List.take_add_one, HX.out]; rfl
          rw [h1, labCells_snoc, hXe])
        clear hXe
        refine (HLb.out _ HP1.out).mono ?_
        rintro e w3 ⟨rfl, hw⟩
        have HO3 := Lib.hid (HO1.out.kept hw.2 (own_apart HO1.out hbl))
        have HG3 := Lib.hid (grown_trans HG1.out hw.2)
        have HP3 := Lib.hid hw.1
        have hz3 := HG3.out.size
        clear hw HLb
        go_wp2_with (at_builtin; refine wpList_append_own _ rfl _ _ 24 rfl w.heap.size 68 i0 (.agg #[.string ⟨#[]⟩, .int .i64 0]) 2 24 Tryz.underlying24 hi hz0 hz1 hz2 rfl (by decide) _ _ _ rfl ((HO3.out.alloc _).alloc _) ⟨w3.heap.size + 1, 0, none⟩ 1 1 [.string X, .int .i64 x.2] rfl rfl (cell_lab2 w3 X x.2) (lab_one _ _) (by unfold maxLen; omega) (by omega) (by simp; omega) ?_; intro v' w4 hown' hgrow _; obtain ⟨A3, c3, rfl⟩ := own_slice hown'; have HO4 := Lib.hid hown'; have HP4 := Lib.hid ((HP3.out.kept (grown_trans (World.grownBy_alloc w3 _ none) (World.grownBy_alloc _ _ none)) (by simp) (by simp)).kept hgrow (own_ne HO3.out hbl) (own_ne HO3.out hgl)); have HG4 := Lib.hid (grown_own (grown_trans HG3.out (grown_trans (World.grownBy_alloc w3 _ _) (World.grownBy_alloc _ _ _))) hgrow (fun k hk => own_from HO3.out hk)); clear hown' hgrow)
        go_roundw
        case rel => exact ⟨kk + 1, A3, c3, by omega, .inr ⟨by omega, rfl⟩, rfl, Lib.hid (by rw [HTk.out]; exact HO4.out), HP4, HG4⟩
        case measure => simp [slLen]; omega
      · obtain rfl : kk = n := by omega
        obtain ⟨t, ht, hts⟩ := HD.out
        have HSk := Lib.hid (skip_no b g go c ts (hd kk) dp t ⟨#[44]⟩ wr hP.out ht (by rcases hts with e | e <;> rw [e] <;> decide))
        clear hts ht
        go_wp2_with fail
        refine HSk.out.mono ?_
        rintro e w1 ⟨rfl, hb⟩
        have HP1 := Lib.hid (hP.out.below hb)
        have HO1 := Lib.hid (hO.out.kept (grown_below hb none) (by cases (Value.slice A' kk c').ownBlock <;> simp))
        have HG1 := Lib.hid (grown_trans hG.out (grown_below hb _))
        clear hb
        go_wp2_with fail
        rw [Exit.noGoto_ret]
        go_ret
        obtain ⟨l1, l2, l3⟩ := own_labs (L := L) HN.out (by have h := HO1.out; rw [List.take_of_length_le (by rw [← HN.out]; exact Nat.le_refl _)] at h; exact h)
        exact ⟨A', c', by rw [← HN.out]; rfl, l1, by rw [← HN.out]; exact ⟨l2, l3⟩, by rw [← HN.out]; exact ⟨HP1.out, HG1.out⟩⟩
end Go.Proofs.YtbfojibhdadglaaGreatDoor
/- The parser of types: names, variables, where a single type begins. -/
namespace Go.Proofs.YtbfojibhdadglaaGreatDoor
open Go.RowKit

set_option maxRecDepth 100000 in
set_option maxHeartbeats 2000000 in
theorem isSingle_yes (b g go c : Nat) (ts : List Rt) (nx dp : Nat) (t : Rt) (w : World) (h : PS w b g go c ts nx dp) (ht : ts[nx]? = some t) (hk : t.k = 2 ∨ t.k = 0 ∨ t.s = [40]) :
    Calls Tryz.prog 154 #[.pointer (some ⟨b, 0, none⟩)] w fun e w' => e = .returned (.bool true) ∧ Below w.heap.size w w' := by
  have HP := Lib.hid (peek_any b g go c ts nx dp t w h ht)
  have hk1 : ((strB t.s).toList == [40]) = (t.s == [40]) := by rw [ByteArray.toList_eq, data_strB]
  clear h ht
  obtain ⟨tk, tss, tn, tp⟩ := t
  simp only at HP hk hk1
  obtain ⟨S, hS⟩ : ∃ S, S = strB tss := ⟨_, rfl⟩
  rw [← hS] at HP hk1
  have fl0 := tfield0
  have fl1 := tfield1
  clear hS
  by_cases h2 : tk = 2
  · subst h2
    clear hk hk1
    go_enter Tryz.func154, Tryz.ntmps154
    go_wp2_with fail
    refine HP.out.mono ?_
    rintro e w1 ⟨rfl, hb⟩
    have HB := Lib.hid hb
    clear hb
    go_wp2_with fail
    go_ret
    exact ⟨rfl, HB.out.alloc HB.out.size _⟩
  have h2b : (tk == 2) = false := by simpa using h2
  by_cases h0 : tk = 0
  · subst h0
    clear hk hk1 h2
    go_enter Tryz.func154, Tryz.ntmps154
    go_wp2_with fail
    refine HP.out.mono ?_
    rintro e w1 ⟨rfl, hb⟩
    have HB := Lib.hid hb
    clear hb
    go_wp2_with fail
    go_ret
    exact ⟨rfl, HB.out.alloc HB.out.size _⟩
  have h0b : (tk == 0) = false := by simpa using h0
  have hs : (S.toList == [40]) = true := by
    rw [hk1]
    rcases hk with e | e | e
    · exact absurd e h2
    · exact absurd e h0
    · rw [e]; rfl
  clear hk hk1 h2 h0
  go_enter Tryz.func154, Tryz.ntmps154
  go_wp2_with fail
  refine HP.out.mono ?_
  rintro e w1 ⟨rfl, hb⟩
  have HB := Lib.hid hb
  clear hb
  go_wp2_with fail
  go_ret
  exact ⟨rfl, HB.out.alloc HB.out.size _⟩
set_option maxRecDepth 100000 in
set_option maxHeartbeats 2000000 in
theorem isSingle_no (b g go c : Nat) (ts : List Rt) (nx dp : Nat) (t : Rt) (w : World) (h : PS w b g go c ts nx dp) (ht : ts[nx]? = some t) (hk : t.k ≠ 2 ∧ t.k ≠ 0 ∧ t.s ≠ [40]) :
    Calls Tryz.prog 154 #[.pointer (some ⟨b, 0, none⟩)] w fun e w' => e = .returned (.bool false) ∧ Below w.heap.size w w' := by
  have HP := Lib.hid (peek_any b g go c ts nx dp t w h ht)
  have hk1 : ((strB t.s).toList == [40]) = (t.s == [40]) := by rw [ByteArray.toList_eq, data_strB]
  clear h ht
  obtain ⟨tk, tss, tn, tp⟩ := t
  simp only at HP hk hk1
  obtain ⟨S, hS⟩ : ∃ S, S = strB tss := ⟨_, rfl⟩
  rw [← hS] at HP hk1
  have fl0 := tfield0
  have fl1 := tfield1
  clear hS
  have h2b : (tk == 2) = false := by simpa using hk.1
  have h0b : (tk == 0) = false := by simpa using hk.2.1
  have hs : (S.toList == [40]) = false := by rw [hk1]; simpa using hk.2.2
  clear hk hk1
  go_enter Tryz.func154, Tryz.ntmps154
  go_wp2_with fail
  refine HP.out.mono ?_
  rintro e w1 ⟨rfl, hb⟩
  have HB := Lib.hid hb
  clear hb
  go_wp2_with fail
  go_ret
  exact ⟨rfl, HB.out.alloc HB.out.size _⟩
theorem res_named {tmps : Array Value} {w : World} {g : Nat} {v0 v1 v2 v3 v4 v5 : Value} (h2 : tmps.getD 2 undef = .pointer (some ⟨g, 0, none⟩)) (h : TyBx w g v0 v1 v2 v3 v4 v5) :
    (results Tryz.f152 tmps).run Tryz.prog w = .ok (.agg #[v0, v1, v2, v3, v4, v5]) w := by
  have c0 := h.c0
  have c1 := h.c1
  have c2 := h.c2
  have c3 := h.c3
  have c4 := h.c4
  have c5 := h.c5
  have h2' : tmps[2]?.getD undef = .pointer (some ⟨g, 0, none⟩) := by simpa using h2
  simp [results, Tryz.results152, go_sem, h2', c0, c1, c2, c3, c4, c5]
theorem rep_leafT {P : Nat → Prop} {w : World} {k n : Int} {s : List UInt8} (hk : okN k) (hn : okN n) (hs : okS s) :
    RepT P w (.mk k n s [] [] 0) [.int .i64 k, .int .i64 n, .string (strB s), .slice none 0 0, .slice none 0 0, .int .i64 0] :=
  ⟨none, 0, none, 0, rfl, ⟨hk, hn, hs, okN_small (by omega), by simp, ⟨Nat.le_refl _, Nat.zero_le _⟩, ⟨Nat.le_refl _, Nat.zero_le _⟩⟩, fun h => absurd rfl h, fun h => absurd rfl h⟩
set_option maxRecDepth 100000 in
set_option maxHeartbeats 2000000 in
theorem namedType_bi (s : List UInt8) (w : World) (hs : biT.contains s = true) :
    Calls Tryz.prog 152 #[.string (strB s)] w fun e w' => e = .returned (.agg #[.int .i64 (btRes s), .int .i64 0, .string (⟨#[]⟩), .slice none 0 0, .slice none 0 0, .int .i64 0]) ∧ w.grownBy w' none := by
  have HB := Lib.hid (fun w => builtInType_any s w)
  rw [hs] at HB
  obtain ⟨S, hS⟩ : ∃ S, S = strB s := ⟨_, rfl⟩
  obtain ⟨k, hk⟩ : ∃ k, k = btRes s := ⟨_, rfl⟩
  rw [← hS, ← hk] at HB
  rw [← hS, ← hk]
  clear hS hk hs
  go_enter Tryz.func152, Tryz.ntmps152
  go_wp2_with fail
  refine (HB.out _).mono ?_
  rintro e w1 ⟨rfl, rfl⟩
  go_wp2_with fail
  exact bodyPost_ret (res_named rfl (TyBx.new _ _ _ _ _ _ _)) rfl ⟨rfl, World.grownBy_alloc _ _ _⟩
set_option maxRecDepth 100000 in
set_option maxHeartbeats 2000000 in
theorem namedType_data (s : List UInt8) (w : World) (hs : biT.contains s = false) :
    Calls Tryz.prog 152 #[.string (strB s)] w fun e w' => e = .returned (.agg #[.int .i64 (6), .int .i64 0, .string (strB s), .slice none 0 0, .slice none 0 0, .int .i64 0]) ∧ w.grownBy w' none := by
  have HB := Lib.hid (fun w => builtInType_any s w)
  rw [hs] at HB
  obtain ⟨S, hS⟩ : ∃ S, S = strB s := ⟨_, rfl⟩
  obtain ⟨k, hk⟩ : ∃ k, k = btRes s := ⟨_, rfl⟩
  rw [← hS, ← hk] at HB
  rw [← hS]
  clear hS hk hs
  go_enter Tryz.func152, Tryz.ntmps152
  go_wp2_with fail
  refine (HB.out _).mono ?_
  rintro e w1 ⟨rfl, rfl⟩
  go_wp2_with fail
  exact bodyPost_ret (res_named rfl (TyBx.new _ _ _ _ _ _ _)) rfl ⟨rfl, World.grownBy_alloc _ _ _⟩
theorem res_variable {tmps : Array Value} {w : World} {g : Nat} {v0 v1 v2 v3 v4 v5 : Value} (h2 : tmps.getD 4 undef = .pointer (some ⟨g, 0, none⟩)) (h : TyBx w g v0 v1 v2 v3 v4 v5) :
    (results Tryz.f153 tmps).run Tryz.prog w = .ok (.agg #[v0, v1, v2, v3, v4, v5]) w := by
  have c0 := h.c0
  have c1 := h.c1
  have c2 := h.c2
  have c3 := h.c3
  have c4 := h.c4
  have c5 := h.c5
  have h2' : tmps[4]?.getD undef = .pointer (some ⟨g, 0, none⟩) := by simpa using h2
  simp [results, Tryz.results153, go_sem, h2', c0, c1, c2, c3, c4, c5]
set_option maxRecDepth 100000 in
set_option maxHeartbeats 2000000 in
theorem variable_num (b g go c : Nat) (ts : List Rt) (nx dp : Nat) (s : List UInt8) (n : Int) (w : World) (h : PS w b g go c ts nx dp) (hN : NbTo 116 s n true) (hY : SyB w b) :
    Calls Tryz.prog 153 #[.pointer (some ⟨b, 0, none⟩), .string (strB s)] w fun e w' => e = .returned (.agg #[.int .i64 0, .int .i64 n, .string ⟨#[]⟩, .slice none 0 0, .slice none 0 0, .int .i64 0]) ∧ w.grownBy w' none := by
  have HN := Lib.hid hN
  unfold NbTo at HN
  have H := Lib.hid h
  have HY := Lib.hid hY
  obtain ⟨S, hS⟩ : ∃ S, S = strB s := ⟨_, rfl⟩
  rw [← hS] at HN ⊢
  have hbl := h.blt
  clear hS h hN hY
  go_enter Tryz.func153, Tryz.ntmps153
  go_wp2_with fail
  refine (HN.out _ (HY.out.1.grown (World.grownBy_alloc _ _ none) (by simp))).mono ?_
  rintro e w1 ⟨rfl, hb⟩
  have hg1 : w.grownBy w1 none := grown_trans (World.grownBy_alloc _ _ _) (grown_below hb none)
  have HT1 := Lib.hid ((TyBx.new w (.int .i64 0) (.int .i64 0) (.string ⟨#[]⟩) (.slice none 0 0) (.slice none 0 0) (.int .i64 0)).kept (grown_below hb none) (by simp))
  have d3 := (H.out.kept hg1 (by simp) (by simp)).c3
  have HG1 := Lib.hid hg1
  have hz1 : w.heap.size < w1.heap.size := HT1.out.lt
  have e0 := HT1.out.c0
  have e1 := HT1.out.c1
  have e2 := HT1.out.c2
  have e3 := HT1.out.c3
  have e4 := HT1.out.c4
  have e5 := HT1.out.c5
  have r0 := HT1.out.fz 0
  have r1 := HT1.out.fz 1
  have r2 := HT1.out.fz 2
  have r3 := HT1.out.fz 3
  have r4 := HT1.out.fz 4
  have r5 := HT1.out.fz 5
  clear hb hg1
  go_wp2_with fail
  exact bodyPost_ret (res_variable rfl (HT1.out.all _ _ _ _ _ _)) rfl ⟨rfl, grown_6 HG1.out (Nat.le_refl _) _ _ _ _ _ _⟩
set_option maxRecDepth 100000 in
set_option maxHeartbeats 2000000 in
theorem variable_par (b g go c : Nat) (ts : List Rt) (nx dp : Nat) (s : List UInt8) (n : Int) (w : World) (h : PS w b g go c ts nx dp) (hN : NbTo 116 s n false) (hY : SyB w b) :
    Calls Tryz.prog 153 #[.pointer (some ⟨b, 0, none⟩), .string (strB s)] w fun e w' => e = .returned (.agg #[.int .i64 1, .int .i64 0, .string (strB s), .slice none 0 0, .slice none 0 0, .int .i64 0]) ∧ w.grownBy w' none := by
  have HN := Lib.hid hN
  unfold NbTo at HN
  have H := Lib.hid h
  have HY := Lib.hid hY
  obtain ⟨S, hS⟩ : ∃ S, S = strB s := ⟨_, rfl⟩
  rw [← hS] at HN ⊢
  have hbl := h.blt
  clear hS h hN hY
  go_enter Tryz.func153, Tryz.ntmps153
  go_wp2_with fail
  refine (HN.out _ (HY.out.1.grown (World.grownBy_alloc _ _ none) (by simp))).mono ?_
  rintro e w1 ⟨rfl, hb⟩
  have hg1 : w.grownBy w1 none := grown_trans (World.grownBy_alloc _ _ _) (grown_below hb none)
  have HT1 := Lib.hid ((TyBx.new w (.int .i64 0) (.int .i64 0) (.string ⟨#[]⟩) (.slice none 0 0) (.slice none 0 0) (.int .i64 0)).kept (grown_below hb none) (by simp))
  have d3 := (H.out.kept hg1 (by simp) (by simp)).c3
  have HG1 := Lib.hid hg1
  have hz1 : w.heap.size < w1.heap.size := HT1.out.lt
  have e0 := HT1.out.c0
  have e1 := HT1.out.c1
  have e2 := HT1.out.c2
  have e3 := HT1.out.c3
  have e4 := HT1.out.c4
  have e5 := HT1.out.c5
  have r0 := HT1.out.fz 0
  have r1 := HT1.out.fz 1
  have r2 := HT1.out.fz 2
  have r3 := HT1.out.fz 3
  have r4 := HT1.out.fz 4
  have r5 := HT1.out.fz 5
  clear hb hg1
  go_wp2_with fail
  exact bodyPost_ret (res_variable rfl (HT1.out.all _ _ _ _ _ _)) rfl ⟨rfl, grown_6 HG1.out (Nat.le_refl _) _ _ _ _ _ _⟩
end Go.Proofs.YtbfojibhdadglaaGreatDoor
/- The parser of types: a single type. -/
namespace Go.Proofs.YtbfojibhdadglaaGreatDoor
open Go.RowKit

/-- the world behind the variables that single makes -/
def WS0 (w : World) : World := w.alloc (.cells #[.int .i64 0, .int .i64 0, .string ⟨#[]⟩, .slice none 0 0, .slice none 0 0, .int .i64 0] 28)
theorem WS0_below (w : World) : Below w.heap.size w (WS0 w) := (Below.refl _ _).alloc (Nat.le_refl _) _
theorem WS0_size (w : World) : (WS0 w).heap.size = w.heap.size + 1 := by simp [WS0]
theorem WS0_T (w : World) : TyBx (WS0 w) w.heap.size (.int .i64 0) (.int .i64 0) (.string ⟨#[]⟩) (.slice none 0 0) (.slice none 0 0) (.int .i64 0) := TyBx.new w _ _ _ _ _ _
theorem res_single {tmps : Array Value} {w : World} {g : Nat} {v0 v1 v2 v3 v4 v5 : Value} (h2 : tmps.getD 2 undef = .pointer (some ⟨g, 0, none⟩)) (h : TyBx w g v0 v1 v2 v3 v4 v5) :
    (results Tryz.f114 tmps).run Tryz.prog w = .ok (.agg #[v0, v1, v2, v3, v4, v5]) w := by
  have c0 := h.c0
  have c1 := h.c1
  have c2 := h.c2
  have c3 := h.c3
  have c4 := h.c4
  have c5 := h.c5
  have h2' : tmps[2]?.getD undef = .pointer (some ⟨g, 0, none⟩) := by simpa using h2
  simp [results, Tryz.results114, go_sem, h2', c0, c1, c2, c3, c4, c5]
set_option maxRecDepth 100000 in
set_option maxHeartbeats 2000000 in
theorem single_upper (b g go c : Nat) (ts : List Rt) (nx dp : Nat) (t : Rt) (k n : Int) (u : List UInt8) (w : World) (h : PS w b g go c ts nx dp) (ht : ts[nx]? = some t) (hk : t.k = 2) (hlen : ts.length ≤ 100000) (hY : SyB w b) (hok : okN k ∧ okN n ∧ okS u)
    (HV : Hid (∀ w', PS w' b g go c ts (nx + 1) dp → SyB w' b → Calls Tryz.prog 152 #[.string (strB t.s)] w' fun e w2 => e = .returned (.agg #[.int .i64 k, .int .i64 n, .string (strB u), .slice none 0 0, .slice none 0 0, .int .i64 0]) ∧ w'.grownBy w2 none)) :
    Calls Tryz.prog 114 #[.pointer (some ⟨b, 0, none⟩)] w (TyTo w b g go c ts (nx + 1) dp (.mk k n u [] [] 0)) := by
  have HP := Lib.hid (fun w h => peek_any b g go c ts nx dp t w h ht)
  have HU := Lib.hid (fun w h => upper_ok b g go c ts nx dp t w h ht hk hlen)
  have H := Lib.hid h
  have HY := Lib.hid hY
  have HK := Lib.hid hok
  have fl0 := tfield0
  have hbl := h.blt
  have hgl := h.lt
  obtain ⟨tk, tss, tn, tp⟩ := t
  simp only at HP HU HV hk
  subst hk
  obtain ⟨S, hS⟩ : ∃ S, S = strB tss := ⟨_, rfl⟩
  obtain ⟨U, hU⟩ : ∃ U, U = strB u := ⟨_, rfl⟩
  rw [← hS] at HP HU HV
  rw [← hU] at HV
  have HUe := Lib.hid hU
  clear h ht hS hY hok hU
  go_enter Tryz.func114, Tryz.ntmps114
  go_wp2_with fail
  have H0 := Lib.hid (H.out.below (WS0_below w))
  refine (HP.out _ H0.out).mono ?_
  rintro e w1 ⟨rfl, hb⟩
  have H1 := Lib.hid (H0.out.below hb)
  have HT1 := Lib.hid ((WS0_T w).kept (grown_below hb none) (by simp))
  have HG1 := Lib.hid (grown_trans (grown_below (WS0_below w) (some b)) (grown_below hb _))
  clear hb
  go_wp2_with fail
  refine (HU.out _ H1.out).mono ?_
  rintro e w2 ⟨rfl, hw⟩
  have H2 := Lib.hid hw.1
  have HT2 := Lib.hid (HT1.out.kept hw.2 (by simp; omega))
  have HG2 := Lib.hid (grown_trans HG1.out hw.2)
  clear hw
  go_wp2_with fail
  refine (HV.out _ H2.out (HY.out.grown HG2.out)).mono ?_
  rintro e w3 ⟨rfl, hg⟩
  have H3 := Lib.hid (H2.out.kept hg (by simp) (by simp))
  have HT3 := Lib.hid (HT2.out.kept hg (by simp))
  have HG3 := Lib.hid (grown_trans HG2.out (Below.grownBy' hg))
  have hz3 : w.heap.size < w3.heap.size := HT3.out.lt
  have e0 := HT3.out.c0
  have r0 := HT3.out.fz 0
  have e1 := HT3.out.c1
  have r1 := HT3.out.fz 1
  have e2 := HT3.out.c2
  have r2 := HT3.out.fz 2
  have e3 := HT3.out.c3
  have r3 := HT3.out.fz 3
  have e4 := HT3.out.c4
  have r4 := HT3.out.fz 4
  have e5 := HT3.out.c5
  have r5 := HT3.out.fz 5
  clear hg
  go_wp2_with fail
  exact bodyPost_ret (res_single rfl (HT3.out.all _ _ _ _ _ _)) rfl ⟨k, n, U, none, 0, 0, none, 0, 0, 0, rfl, by rw [HUe.out]; exact rep_leafT HK.out.1 HK.out.2.1 HK.out.2.2, H3.out.kept (set6_grown _ _ _ _ _ _ _ _) (by simp; omega) (by simp; omega), grown_6 HG3.out (Nat.le_refl _) _ _ _ _ _ _⟩
set_option maxRecDepth 100000 in
set_option maxHeartbeats 2000000 in
theorem single_lower (b g go c : Nat) (ts : List Rt) (nx dp : Nat) (t : Rt) (k n : Int) (u : List UInt8) (w : World) (h : PS w b g go c ts nx dp) (ht : ts[nx]? = some t) (hk : t.k = 0) (hlen : ts.length ≤ 100000) (hY : SyB w b) (hok : okN k ∧ okN n ∧ okS u)
    (HV : Hid (∀ w', PS w' b g go c ts (nx + 1) dp → SyB w' b → Calls Tryz.prog 153 #[.pointer (some ⟨b, 0, none⟩), .string (strB t.s)] w' fun e w2 => e = .returned (.agg #[.int .i64 k, .int .i64 n, .string (strB u), .slice none 0 0, .slice none 0 0, .int .i64 0]) ∧ w'.grownBy w2 none)) :
    Calls Tryz.prog 114 #[.pointer (some ⟨b, 0, none⟩)] w (TyTo w b g go c ts (nx + 1) dp (.mk k n u [] [] 0)) := by
  have HP := Lib.hid (fun w h => peek_any b g go c ts nx dp t w h ht)
  have HU := Lib.hid (fun w h => lower_ok b g go c ts nx dp t w h ht hk hlen)
  have H := Lib.hid h
  have HY := Lib.hid hY
  have HK := Lib.hid hok
  have fl0 := tfield0
  have hbl := h.blt
  have hgl := h.lt
  obtain ⟨tk, tss, tn, tp⟩ := t
  simp only at HP HU HV hk
  subst hk
  obtain ⟨S, hS⟩ : ∃ S, S = strB tss := ⟨_, rfl⟩
  obtain ⟨U, hU⟩ : ∃ U, U = strB u := ⟨_, rfl⟩
  rw [← hS] at HP HU HV
  rw [← hU] at HV
  have HUe := Lib.hid hU
  clear h ht hS hY hok hU
  go_enter Tryz.func114, Tryz.ntmps114
  go_wp2_with fail
  have H0 := Lib.hid (H.out.below (WS0_below w))
  refine (HP.out _ H0.out).mono ?_
  rintro e w1 ⟨rfl, hb⟩
  have H1 := Lib.hid (H0.out.below hb)
  have HT1 := Lib.hid ((WS0_T w).kept (grown_below hb none) (by simp))
  have HG1 := Lib.hid (grown_trans (grown_below (WS0_below w) (some b)) (grown_below hb _))
  clear hb
  go_wp2_with fail
  refine (HU.out _ H1.out).mono ?_
  rintro e w2 ⟨rfl, hw⟩
  have H2 := Lib.hid hw.1
  have HT2 := Lib.hid (HT1.out.kept hw.2 (by simp; omega))
  have HG2 := Lib.hid (grown_trans HG1.out hw.2)
  clear hw
  go_wp2_with fail
  refine (HV.out _ H2.out (HY.out.grown HG2.out)).mono ?_
  rintro e w3 ⟨rfl, hg⟩
  have H3 := Lib.hid (H2.out.kept hg (by simp) (by simp))
  have HT3 := Lib.hid (HT2.out.kept hg (by simp))
  have HG3 := Lib.hid (grown_trans HG2.out (Below.grownBy' hg))
  have hz3 : w.heap.size < w3.heap.size := HT3.out.lt
  have e0 := HT3.out.c0
  have r0 := HT3.out.fz 0
  have e1 := HT3.out.c1
  have r1 := HT3.out.fz 1
  have e2 := HT3.out.c2
  have r2 := HT3.out.fz 2
  have e3 := HT3.out.c3
  have r3 := HT3.out.fz 3
  have e4 := HT3.out.c4
  have r4 := HT3.out.fz 4
  have e5 := HT3.out.c5
  have r5 := HT3.out.fz 5
  clear hg
  go_wp2_with fail
  exact bodyPost_ret (res_single rfl (HT3.out.all _ _ _ _ _ _)) rfl ⟨k, n, U, none, 0, 0, none, 0, 0, 0, rfl, by rw [HUe.out]; exact rep_leafT HK.out.1 HK.out.2.1 HK.out.2.2, H3.out.kept (set6_grown _ _ _ _ _ _ _ _) (by simp; omega) (by simp; omega), grown_6 HG3.out (Nat.le_refl _) _ _ _ _ _ _⟩
set_option maxRecDepth 100000 in
set_option maxHeartbeats 2000000 in
theorem single_paren (b g go c : Nat) (ts : List Rt) (nx nx1 dp : Nat) (t t1 : Rt) (ex : Ty) (w : World) (h : PS w b g go c ts nx dp) (ht : ts[nx]? = some t) (hk2 : t.k ≠ 2) (hk0 : t.k ≠ 0) (hs : t.s = [40]) (ht1 : ts[nx1]? = some t1) (hs1 : t1.s = [41]) (hlen : ts.length ≤ 100000)
    (HF : Hid (∀ w', w.grownBy w' (some b) → PS w' b g go c ts (nx + 1) dp → Calls Tryz.prog 23 #[.pointer (some ⟨b, 0, none⟩)] w' (TyTo w' b g go c ts nx1 dp ex))) :
    Calls Tryz.prog 114 #[.pointer (some ⟨b, 0, none⟩)] w (TyTo w b g go c ts (nx1 + 1) dp ex) := by
  have HP := Lib.hid (fun w h => peek_any b g go c ts nx dp t w h ht)
  have HN := Lib.hid (fun w h => need_ok b g go c ts nx dp t ⟨#[40]⟩ w h ht hs hlen)
  have HN1 := Lib.hid (fun w h => need_ok b g go c ts nx1 dp t1 ⟨#[41]⟩ w h ht1 hs1 hlen)
  have H := Lib.hid h
  have fl0 := tfield0
  have hbl := h.blt
  have hgl := h.lt
  obtain ⟨tk, tss, tn, tp⟩ := t
  simp only at HP HN hk2 hk0
  obtain ⟨S, hS⟩ : ∃ S, S = strB tss := ⟨_, rfl⟩
  rw [← hS] at HP
  have h2b : (tk == 2) = false := by simpa using hk2
  have h0b : (tk == 0) = false := by simpa using hk0
  clear h ht hS hk2 hk0 hs ht1 hs1
  go_enter Tryz.func114, Tryz.ntmps114
  go_wp2_with fail
  have H0 := Lib.hid (H.out.below (WS0_below w))
  refine (HP.out _ H0.out).mono ?_
  rintro e w1 ⟨rfl, hb⟩
  have H1 := Lib.hid (H0.out.below hb)
  have HT1 := Lib.hid ((WS0_T w).kept (grown_below hb none) (by simp))
  have HG1 := Lib.hid (grown_trans (grown_below (WS0_below w) (some b)) (grown_below hb _))
  clear hb
  go_wp2_with fail
  refine (HN.out _ H1.out).mono ?_
  rintro e w2 ⟨rfl, hw⟩
  have H2 := Lib.hid hw.1
  have HT2 := Lib.hid (HT1.out.kept hw.2 (by simp; omega))
  have HG2 := Lib.hid (grown_trans HG1.out hw.2)
  clear hw
  go_wp2_with fail
  refine (HF.out _ HG2.out H2.out).mono ?_
  rintro e w3 ⟨k, n, s, A0, n0, m0, A1, n1, m1, tl, rfl, hr, hw⟩
  have H3 := Lib.hid hw.1
  have HT3 := Lib.hid (HT2.out.kept hw.2 (by simp; omega))
  have HG3 := Lib.hid (grown_trans HG2.out hw.2)
  have hz2 : w.heap.size < w2.heap.size := HT2.out.lt
  have hz23 := hw.2.size
  have HR3 := Lib.hid hr.tight2
  clear hr hw HF
  go_wp2_with fail
  obtain ⟨W4, hW4⟩ : ∃ W4, w3.alloc (.cells #[.int .i64 k, .int .i64 n, .string s, .slice A0 n0 m0, .slice A1 n1 m1, .int .i64 tl] 28) = W4 := ⟨_, rfl⟩
  have hg4 : w3.grownBy W4 none := by rw [← hW4]; exact World.grownBy_alloc _ _ _
  have H4 := Lib.hid (H3.out.kept hg4 (by simp) (by simp))
  have HT4 := Lib.hid (HT3.out.kept hg4 (by simp))
  have HU4 : Hid (TyBx W4 w3.heap.size (.int .i64 k) (.int .i64 n) (.string s) (.slice A0 n0 m0) (.slice A1 n1 m1) (.int .i64 tl)) := Lib.hid (by rw [← hW4]; exact TyBx.new w3 _ _ _ _ _ _)
  have HG4 := Lib.hid (grown_trans HG3.out (Below.grownBy' hg4))
  have HR4 := Lib.hid (HR3.out.keep (Same.of_grown hg4 (fun _ _ => by simp)))
  rw [hW4]
  clear hW4 hg4
  refine (HN1.out _ H4.out).mono ?_
  rintro e w5 ⟨rfl, hw⟩
  have H5 := Lib.hid hw.1
  have HT5 := Lib.hid (HT4.out.kept hw.2 (by simp; omega))
  have HU5 := Lib.hid (HU4.out.kept hw.2 (by simp; omega))
  have HG5 := Lib.hid (grown_trans HG4.out hw.2)
  have HR5 := Lib.hid (HR4.out.keep (Same.of_grown hw.2 (fun x hx => by have := hx.1; simp; omega)))
  have hz5 : w.heap.size < w5.heap.size := HT5.out.lt
  have e0 := HT5.out.c0
  have r0 := HT5.out.fz 0
  have e1 := HT5.out.c1
  have r1 := HT5.out.fz 1
  have e2 := HT5.out.c2
  have r2 := HT5.out.fz 2
  have e3 := HT5.out.c3
  have r3 := HT5.out.fz 3
  have e4 := HT5.out.c4
  have r4 := HT5.out.fz 4
  have e5 := HT5.out.c5
  have r5 := HT5.out.fz 5
  have d0 := HU5.out.c0
  have d1 := HU5.out.c1
  have d2 := HU5.out.c2
  have d3 := HU5.out.c3
  have d4 := HU5.out.c4
  have d5 := HU5.out.c5
  clear hw
  go_wp2_with fail
  exact bodyPost_ret (res_single rfl (HT5.out.all _ _ _ _ _ _)) rfl ⟨k, n, s, A0, n0, m0, A1, n1, m1, tl, rfl, (HR5.out.keep (Same.of_grown (set6_grown _ _ _ _ _ _ _ _) (fun x hx => by have := hx.1; simp; omega))).weaken (fun x hx => by have := hx.1; omega), H5.out.kept (set6_grown _ _ _ _ _ _ _ _) (by simp; omega) (by simp; omega), grown_6 HG5.out (Nat.le_refl _) _ _ _ _ _ _⟩
end Go.Proofs.YtbfojibhdadglaaGreatDoor
/- The parser of types: the arguments of a data type. -/
namespace Go.Proofs.YtbfojibhdadglaaGreatDoor
open Go.RowKit

theorem flat6_at : ∀ {cl : List (List Value)}, (∀ c ∈ cl, c.length = 6) → ∀ (j i : Nat) (c : List Value), cl[j]? = some c → i < 6 → cl.flatten[j * 6 + i]? = c[i]?
  | [], _, j, i, c, hj, _ => by simp at hj
  | x :: r, h, 0, i, c, hj, hi => by
    simp only [List.getElem?_cons_zero, Option.some.injEq] at hj
    subst hj
    rw [List.flatten_cons, Nat.zero_mul, Nat.zero_add, List.getElem?_append_left (by rw [h x (by simp)]; exact hi)]
  | x :: r, h, j + 1, i, c, hj, hi => by
    simp only [List.getElem?_cons_succ] at hj
    rw [List.flatten_cons, List.getElem?_append_right (by rw [h x (by simp)]; omega), h x (by simp), show (j + 1) * 6 + i - 6 = j * 6 + i by omega]
    exact flat6_at (fun y hy => h y (by simp [hy])) j i c hj hi
/-- the cells of types -/
def CellsT (P : Nat → Prop) (w : World) (l : List Ty) (cl : List (List Value)) : Prop := cl.length = l.length ∧ ∀ (j : Nat) (e : Ty) (c : List Value), l[j]? = some e → cl[j]? = some c → RepT P w e c
theorem RepT.six {P : Nat → Prop} {w : World} {e : Ty} {c : List Value} (h : RepT P w e c) : c.length = 6 := by
  obtain ⟨k, n, s, A0, n0, c0, A1, n1, c1, tl, rfl⟩ := h.shape; rfl
theorem CellsT.six {P : Nat → Prop} {w : World} {l : List Ty} {cl : List (List Value)} (h : CellsT P w l cl) : ∀ c ∈ cl, c.length = 6 := fun c hc => by
  obtain ⟨j, hj, rfl⟩ := List.getElem_of_mem hc
  exact (h.2 j _ _ (List.getElem?_eq_getElem (by rw [← h.1]; exact hj)) (List.getElem?_eq_getElem hj)).six
theorem CellsT.keep {P : Nat → Prop} {w w' : World} {l : List Ty} {cl : List (List Value)} (h : CellsT P w l cl) (hs : Same P w w') : CellsT P w' l cl := ⟨h.1, fun j e c h1 h2 => (h.2 j e c h1 h2).keep hs⟩
theorem CellsT.weaken {P Q : Nat → Prop} {w : World} {l : List Ty} {cl : List (List Value)} (h : CellsT P w l cl) (hq : ∀ x, P x → Q x) : CellsT Q w l cl := ⟨h.1, fun j e c h1 h2 => (h.2 j e c h1 h2).weaken hq⟩
theorem CellsT.tight {P : Nat → Prop} {w : World} {l : List Ty} {cl : List (List Value)} (h : CellsT P w l cl) : CellsT (fun x => P x ∧ x < w.heap.size) w l cl := ⟨h.1, fun j e c h1 h2 => (h.2 j e c h1 h2).tight2⟩
theorem CellsT.snoc {P : Nat → Prop} {w : World} {l : List Ty} {cl : List (List Value)} (h : CellsT P w l cl) {e : Ty} {c : List Value} (hr : RepT P w e c) : CellsT P w (l ++ [e]) (cl ++ [c]) := by
  refine ⟨by simp [h.1], fun j e' c' h1 h2 => ?_⟩
  by_cases hj : j < l.length
  · rw [List.getElem?_append_left hj] at h1
    rw [List.getElem?_append_left (by rw [h.1]; exact hj)] at h2
    exact h.2 j e' c' h1 h2
  · rw [List.getElem?_append_right (by omega)] at h1
    rw [List.getElem?_append_right (by rw [h.1]; omega), h.1] at h2
    cases hz : j - l.length with
    | zero =>
      rw [hz] at h1 h2
      simp only [List.getElem?_cons_zero, Option.some.injEq] at h1 h2
      subst h1; subst h2; exact hr
    | succ m => rw [hz] at h1; simp at h1
/-- a row of types that is the call's own -/
theorem CellsT.list {base : Nat} {w : World} {l : List Ty} {cl : List (List Value)} {A : Option Addr} {n c : Nat} (h : CellsT (fun x => base ≤ x) w l cl) (hn : n = l.length) (ho : w.ownsRow base 28 6 (.slice A n c) n cl.flatten) :
    (l ≠ [] → ∃ b off, A = some ⟨b, off, none⟩ ∧ base ≤ b ∧ b < w.heap.size ∧ RepTL (fun x => base ≤ x) w b off l) ∧ n ≤ c ∧ c ≤ maxLen := by
  rcases ho.2 with ⟨e, h0⟩ | ⟨g, cap, cur, e, hb, hg, h1, h2, _⟩
  · injection e with e1 e2 e3
    subst e1 e3
    have : l = [] := List.length_eq_zero_iff.1 (by omega)
    subst this
    exact ⟨fun h => absurd rfl h, by omega, by unfold maxLen; omega⟩
  · injection e with e1 e2 e3
    subst e1 e3
    refine ⟨fun _ => ⟨g, 0, rfl, hb, (Array.getElem?_eq_some_iff.1 hg).1, RepTL.of fun j x hj => ?_⟩, h1, h2⟩
    have hjl := (List.getElem?_eq_some_iff.1 hj).1
    have hjc : j < cl.length := by rw [h.1]; exact hjl
    have hr := h.2 j x _ hj (List.getElem?_eq_getElem hjc)
    refine ⟨_, hr.six, fun i v hi => ?_, hr⟩
    have hi6 : i < 6 := by have := (List.getElem?_eq_some_iff.1 hi).1; rw [hr.six] at this; exact this
    rw [Nat.zero_add, ho.cellAt (j * 6 + i) (by omega), flat6_at h.six j i _ (List.getElem?_eq_getElem hjc) hi6]
    exact hi
theorem infoTy : (Tryz.prog.info? 28).map (fun i => (i.zero, i.size, i.bytes)) = some (some (.agg #[.int .i64 0, .int .i64 0, .string ⟨#[]⟩, .slice none 0 0, .slice none 0 0, .int .i64 0]), 6, 88) := by kernel_rfl
end Go.Proofs.YtbfojibhdadglaaGreatDoor
/- The parser of types: the arguments of a data type, one after another. -/
namespace Go.Proofs.YtbfojibhdadglaaGreatDoor
open Go.RowKit

/-- arguments are read -/
def ArgsTo (w : World) (b g go c : Nat) (ts : List Rt) (nx dp : Nat) (l : List Ty) (e : Ending) (w' : World) : Prop :=
  ∃ A cap, e = .returned (.slice A l.length cap) ∧ (l ≠ [] → ∃ x off, A = some ⟨x, off, none⟩ ∧ w.heap.size ≤ x ∧ x < w'.heap.size ∧ RepTL (fun x => w.heap.size ≤ x) w' x off l) ∧ (l.length ≤ cap ∧ cap ≤ maxLen) ∧ Went w w' b g go c ts nx dp
theorem cell_ty (w : World) (v0 v1 v2 v3 v4 v5 : Value) (t : TypeId) : ∀ j u, ([v0, v1, v2, v3, v4, v5] : List Value)[j]? = some u → (w.alloc (.cells #[v0, v1, v2, v3, v4, v5] t)).cell? ((⟨w.heap.size, 0, none⟩ : Addr).add j) = some u := by
  intro j u hj
  match j, hj with
  | 0, hj => simp at hj; subst hj; simp [Addr.add]
  | 1, hj => simp at hj; subst hj; simp [Addr.add]
  | 2, hj => simp at hj; subst hj; simp [Addr.add]
  | 3, hj => simp at hj; subst hj; simp [Addr.add]
  | 4, hj => simp at hj; subst hj; simp [Addr.add]
  | 5, hj => simp at hj; subst hj; simp [Addr.add]
  | j + 6, hj => simp at hj
theorem cell_ty2 (w : World) (v0 v1 v2 v3 v4 v5 : Value) : ∀ j u, ([v0, v1, v2, v3, v4, v5] : List Value)[j]? = some u → ((w.alloc (.cells #[v0, v1, v2, v3, v4, v5] 28)).alloc (.cells #[v0, v1, v2, v3, v4, v5] 28)).cell? ((⟨w.heap.size + 1, 0, none⟩ : Addr).add j) = some u := by
  have := cell_ty (w.alloc (.cells #[v0, v1, v2, v3, v4, v5] 28)) v0 v1 v2 v3 v4 v5 28
  rw [World.size_alloc] at this
  exact this
theorem ty_one (k n : Int) (s : ByteArray) (A0 : Option Addr) (n0 c0 : Nat) (A1 : Option Addr) (n1 c1 : Nat) (tl : Int) : ∀ u ∈ ([.int .i64 k, .int .i64 n, .string s, .slice A0 n0 c0, .slice A1 n1 c1, .int .i64 tl] : List Value), u.oneCell' = true := by
  intro u hu
  simp only [List.mem_cons, List.not_mem_nil, or_false] at hu
  rcases hu with rfl | rfl | rfl | rfl | rfl | rfl <;> rfl

set_option maxRecDepth 100000 in
set_option maxHeartbeats 4000000 in
theorem singles_any (b g go c : Nat) (ts : List Rt) (nx dp : Nat) (L : List Ty) (hd : Nat → Nat) (w : World) (h : PS w b g go c ts nx dp) (h0 : hd 0 = nx) (hL : L.length ≤ 100000)
    (hsing : ∀ kk e, L[kk]? = some e → ∀ w', w.grownBy w' (some b) → PS w' b g go c ts (hd kk) dp → Calls Tryz.prog 114 #[.pointer (some ⟨b, 0, none⟩)] w' (TyTo w' b g go c ts (hd (kk + 1)) dp e))
    (hfirst : ∀ kk, kk < L.length → ∃ t, ts[hd kk]? = some t ∧ (t.k = 2 ∨ t.k = 0 ∨ t.s = [40]))
    (hend : ∃ t, ts[hd L.length]? = some t ∧ (t.k ≠ 2 ∧ t.k ≠ 0 ∧ t.s ≠ [40])) :
    Calls Tryz.prog 115 #[.pointer (some ⟨b, 0, none⟩)] w (ArgsTo w b g go c ts (hd L.length) dp L) := by
  obtain ⟨i0, hi, hz0, hz1, hz2⟩ := info_parts infoTy
  have H := Lib.hid h
  have hbl := h.blt
  have hgl := h.lt
  have HS := Lib.hid hsing
  have HF := Lib.hid hfirst
  have HD := Lib.hid hend
  obtain ⟨n, hn⟩ : ∃ n, n = L.length := ⟨_, rfl⟩
  have HN := Lib.hid hn
  have hn2 : n ≤ 100000 := by omega
  have H0 := Lib.hid h0
  rw [← hn] at HF HD
  clear h hsing hfirst hend hn hL h0
  go_enter Tryz.func115, Tryz.ntmps115
  go_wp2_with fail
  go_loopw [2] (fun v wr => ∃ (kk : Nat) (A' : Option Addr) (c' : Nat) (cl : List (List Value)), kk ≤ n ∧ v = .slice A' kk c' ∧ Hid (wr.ownsRow w.heap.size 28 6 (.slice A' kk c') kk cl.flatten) ∧ Hid (CellsT (fun x => w.heap.size ≤ x ∧ some x ≠ (Value.slice A' kk c').ownBlock) wr (L.take kk) cl) ∧ Hid (PS wr b g go c ts (hd kk) dp) ∧ Hid (w.grownBy wr (some b))) (fun v _ => n - slLen v)
  case atStart => exact ⟨0, none, 0, [], Nat.zero_le _, rfl, Lib.hid (World.ownsRow_nil _ _ _ _), Lib.hid ⟨by simp, fun j e c h1 h2 => by simp at h2⟩, by rw [H0.out]; exact H, Lib.hid ⟨rfl, rfl, rfl, Nat.le_refl _, fun _ _ _ => rfl⟩⟩
  case round =>
    obtain ⟨kk, A', c', cl, hkk, rfl, hO, hC, hP, hG⟩ := hrel
    by_cases hkn : kk < n
    · obtain ⟨t, ht, hts⟩ := HF.out kk hkn
      obtain ⟨x, hx⟩ : ∃ x, x = L[kk]'(by rw [← HN.out]; exact hkn) := ⟨_, rfl⟩
      have HX : Hid (L[kk]? = some x) := Lib.hid (by rw [hx]; exact List.getElem?_eq_getElem _)
      have HIs := Lib.hid (isSingle_yes b g go c ts (hd kk) dp t wr hP.out ht hts)
      have HSg := Lib.hid (HS.out kk x HX.out)
      have HTk : Hid (L.take (kk + 1) = L.take kk ++ [x]) := Lib.hid (by rw [List.take_add_one, HX.out]; rfl)
      clear hts ht hx
      go_wp2_with fail
      refine HIs.out.mono ?_
      rintro e w1 ⟨rfl, hb⟩
      have HP1 := Lib.hid (hP.out.below hb)
      have HO1 := Lib.hid (hO.out.kept (grown_below hb none) (by cases (Value.slice A' kk c').ownBlock <;> simp))
      have HC1 := Lib.hid (hC.out.keep (Same.of_below hb))
      have HG1 := Lib.hid (grown_trans hG.out (grown_below hb _))
      clear hb
      go_wp2_with fail
      refine (HSg.out _ HG1.out HP1.out).mono ?_
      rintro e w2 ⟨k, m, s, A0, n0, m0, A1, n1, m1, tl, rfl, hr, hw⟩
      have HP2 := Lib.hid hw.1
      have HO2 := Lib.hid (HO1.out.kept hw.2 (own_apart HO1.out hbl))
      have HC2 := Lib.hid ((HC1.out.keep (Same.of_grown hw.2 (fun x hx => by have := hx.1; simp; omega))).tight)
      have HG2 := Lib.hid (grown_trans HG1.out hw.2)
      have HR2 : Hid (RepT (fun x => (w.heap.size ≤ x ∧ some x ≠ (Value.slice A' kk c').ownBlock) ∧ x < w2.heap.size) w2 x [.int .i64 k, .int .i64 m, .string s, .slice A0 n0 m0, .slice A1 n1 m1, .int .i64 tl]) := Lib.hid (hr.tight2.weaken (fun y hy => ⟨⟨by have := HG1.out.size; have := hy.1; omega, fun e => by have := (HO1.out.lt _ e.symm).2; have := hy.1; omega⟩, hy.2⟩))
      have hzw2 := HG2.out.size
      clear hr hw HSg
      go_wp2_with (at_builtin; refine wpList_append_own_at _ rfl _ _ 23 rfl w.heap.size 28 i0 (.agg #[.int .i64 0, .int .i64 0, .string ⟨#[]⟩, .slice none 0 0, .slice none 0 0, .int .i64 0]) 6 88 Tryz.underlying23 hi hz0 hz1 hz2 rfl (by decide) _ _ _ rfl ((HO2.out.alloc _).alloc _) ⟨w2.heap.size + 1, 0, none⟩ 1 1 [.int .i64 k, .int .i64 m, .string s, .slice A0 n0 m0, .slice A1 n1 m1, .int .i64 tl] rfl rfl (cell_ty2 w2 _ _ _ _ _ _) (ty_one _ _ _ _ _ _ _ _ _ _) (by unfold maxLen; omega) (by omega) (by simp; omega) ?_; intro v' w4 hown' hgrow _ hat; obtain ⟨A3, c3, rfl⟩ := own_slice hown'; have HO4 := Lib.hid hown'; have HGr := Lib.hid hgrow; have HAt := Lib.hid hat; clear hown' hgrow hat)
      have HP4 := Lib.hid ((HP2.out.kept (grown_trans (World.grownBy_alloc w2 _ none) (World.grownBy_alloc _ _ none)) (by simp) (by simp)).kept HGr.out (own_ne HO2.out hbl) (own_ne HO2.out hgl))
      have HG4 := Lib.hid (grown_own (grown_trans HG2.out (grown_trans (World.grownBy_alloc w2 _ _) (World.grownBy_alloc _ _ _))) HGr.out (fun k hk => own_from HO2.out hk))
      have hsa : Same (fun x => (w.heap.size ≤ x ∧ some x ≠ (Value.slice A' kk c').ownBlock) ∧ x < w2.heap.size) w2 w4 := (Same.of_grown (grown_trans (World.grownBy_alloc w2 _ none) (World.grownBy_alloc _ _ none)) (fun x hx => by simp)).trans (Same.of_grown HGr.out (fun x hx => hx.1.2))
      have HC4 : Hid (CellsT (fun x => w.heap.size ≤ x ∧ some x ≠ (Value.slice A3 (kk + 1) c3).ownBlock) w4 (L.take (kk + 1)) (cl ++ [[.int .i64 k, .int .i64 m, .string s, .slice A0 n0 m0, .slice A1 n1 m1, .int .i64 tl]])) := Lib.hid (by
        rw [HTk.out]
        refine ((HC2.out.keep hsa).snoc (HR2.out.keep hsa)).weaken fun y hy => ⟨hy.1.1, ?_⟩
        rcases HAt.out with e | e
        · rw [e]; exact hy.1.2
        · rw [e]
          intro e2
          have e3 := Option.some.inj e2
          have := hy.2
          simp at e3
          omega)
      go_roundw
      case rel => exact ⟨kk + 1, A3, c3, _, by omega, rfl, Lib.hid (by rw [List.flatten_append]; simpa using HO4.out), HC4, HP4, HG4⟩
      case measure => simp [slLen]; omega
    · obtain rfl : kk = n := by omega
      obtain ⟨t, ht, hts⟩ := HD.out
      have HIs := Lib.hid (isSingle_no b g go c ts (hd kk) dp t wr hP.out ht hts)
      clear hts ht
      go_wp2_with fail
      refine HIs.out.mono ?_
      rintro e w1 ⟨rfl, hb⟩
      have HP1 := Lib.hid (hP.out.below hb)
      have HO1 := Lib.hid (hO.out.kept (grown_below hb none) (by cases (Value.slice A' kk c').ownBlock <;> simp))
      have HC1 := Lib.hid (hC.out.keep (Same.of_below hb))
      have HG1 := Lib.hid (grown_trans hG.out (grown_below hb _))
      clear hb
      go_wp2_with fail
      go_ret
      have hcl := HC1.out.weaken (Q := fun x => w.heap.size ≤ x) (fun x hx => hx.1)
      rw [List.take_of_length_le (by rw [← HN.out]; exact Nat.le_refl _)] at hcl
      obtain ⟨l1, l2, l3⟩ := hcl.list HN.out HO1.out
      exact ⟨A', c', by rw [← HN.out]; rfl, l1, by rw [← HN.out]; exact ⟨l2, l3⟩, by rw [← HN.out]; exact ⟨HP1.out, HG1.out⟩⟩
end Go.Proofs.YtbfojibhdadglaaGreatDoor
/- The parser of types: a data type with arguments. -/
namespace Go.Proofs.YtbfojibhdadglaaGreatDoor
open Go.RowKit

theorem res_applied {tmps : Array Value} {w : World} {g : Nat} {v0 v1 v2 v3 v4 v5 : Value} (h2 : tmps.getD 2 undef = .pointer (some ⟨g, 0, none⟩)) (h : TyBx w g v0 v1 v2 v3 v4 v5) :
    (results Tryz.f70 tmps).run Tryz.prog w = .ok (.agg #[v0, v1, v2, v3, v4, v5]) w := by
  have c0 := h.c0
  have c1 := h.c1
  have c2 := h.c2
  have c3 := h.c3
  have c4 := h.c4
  have c5 := h.c5
  have h2' : tmps[2]?.getD undef = .pointer (some ⟨g, 0, none⟩) := by simpa using h2
  simp [results, Tryz.results70, go_sem, h2', c0, c1, c2, c3, c4, c5]
theorem RepT.kind {P : Nat → Prop} {w : World} {e : Ty} {k : Int} {r : List Value} (h : RepT P w e (.int .i64 k :: r)) : k = e.k := by
  cases e
  obtain ⟨Al, cl, Ar, cr, e, _⟩ := h
  unfold tyCells at e
  injection e with e1 _
  injection e1
set_option maxRecDepth 100000 in
set_option maxHeartbeats 2000000 in
theorem applied_low (b g go c : Nat) (ts : List Rt) (nx nx1 dp : Nat) (t : Rt)  (ex : Ty) (w : World) (h : PS w b g go c ts nx dp) (ht : ts[nx]? = some t) (hk : t.k ≠ 2)
    (HS : Hid (∀ w', w.grownBy w' (some b) → PS w' b g go c ts nx dp → Calls Tryz.prog 114 #[.pointer (some ⟨b, 0, none⟩)] w' (TyTo w' b g go c ts nx1 dp ex))) :
    Calls Tryz.prog 70 #[.pointer (some ⟨b, 0, none⟩)] w (TyTo w b g go c ts nx1 dp ex) := by
  have HP := Lib.hid (fun w h => peek_any b g go c ts nx dp t w h ht)
  have H := Lib.hid h
  have fl0 := tfield0
  have hbl := h.blt
  have hgl := h.lt
  obtain ⟨tk, tss, tn, tp⟩ := t
  simp only at HP hk
  obtain ⟨S, hS⟩ : ∃ S, S = strB tss := ⟨_, rfl⟩
  rw [← hS] at HP
  have hkb : (tk == 2) = false := by simpa using hk
  clear hk
  clear h ht hS
  go_enter Tryz.func70, Tryz.ntmps70
  go_wp2_with fail
  have H0 := Lib.hid (H.out.below (WS0_below w))
  refine (HP.out _ H0.out).mono ?_
  rintro e w1 ⟨rfl, hb⟩
  have H1 := Lib.hid (H0.out.below hb)
  have HT1 := Lib.hid ((WS0_T w).kept (grown_below hb none) (by simp))
  have HG1 := Lib.hid (grown_trans (grown_below (WS0_below w) (some b)) (grown_below hb _))
  clear hb
  go_wp2_with fail
  refine (HS.out _ HG1.out H1.out).mono ?_
  rintro e w3 ⟨k, n, s, A0, n0, m0, A1, n1, m1, tl, rfl, hr, hw⟩
  have H3 := Lib.hid hw.1
  have HT3 := Lib.hid (HT1.out.kept hw.2 (by simp; omega))
  have HG3 := Lib.hid (grown_trans HG1.out hw.2)
  have hz2 : w.heap.size < w1.heap.size := HT1.out.lt
  have hz3 : w.heap.size < w3.heap.size := HT3.out.lt
  have hz23 := hw.2.size
  have HR3 := Lib.hid hr.tight2
  clear hr hw HS
  have e0 := HT3.out.c0
  have r0 := HT3.out.fz 0
  have e1 := HT3.out.c1
  have r1 := HT3.out.fz 1
  have e2 := HT3.out.c2
  have r2 := HT3.out.fz 2
  have e3 := HT3.out.c3
  have r3 := HT3.out.fz 3
  have e4 := HT3.out.c4
  have r4 := HT3.out.fz 4
  have e5 := HT3.out.c5
  have r5 := HT3.out.fz 5
  have HU3 := Lib.hid (TyBx.new w3 (.int .i64 k) (.int .i64 n) (.string s) (.slice A0 n0 m0) (.slice A1 n1 m1) (.int .i64 tl))
  have q1 : ¬ w.heap.size = w3.heap.size := by omega
  have q2 : ¬ w3.heap.size = w.heap.size := by omega
  go_wp2_with fail
  exact bodyPost_ret (res_applied rfl ((HT3.out.all _ _ _ _ _ _).kept (World.grownBy_alloc _ _ none) (by simp))) rfl ⟨k, n, s, A0, n0, m0, A1, n1, m1, tl, rfl, ((HR3.out.keep (Same.of_grown (set6_grown _ _ _ _ _ _ _ _) (fun x hx => by have := hx.1; simp; omega))).keep (Same.of_grown (World.grownBy_alloc _ _ none) (fun _ _ => by simp))).weaken (fun x hx => by have := hx.1; omega), (H3.out.kept (set6_grown _ _ _ _ _ _ _ _) (by simp; omega) (by simp; omega)).kept (World.grownBy_alloc _ _ none) (by simp) (by simp), grown_trans (grown_6 HG3.out (Nat.le_refl _) _ _ _ _ _ _) (World.grownBy_alloc _ _ _)⟩
set_option maxRecDepth 100000 in
set_option maxHeartbeats 2000000 in
theorem applied_bi (b g go c : Nat) (ts : List Rt) (nx nx1 dp : Nat) (t : Rt)  (ex : Ty) (w : World) (h : PS w b g go c ts nx dp) (ht : ts[nx]? = some t) (hk : t.k = 2) (he : ex.k ≠ 6)
    (HS : Hid (∀ w', w.grownBy w' (some b) → PS w' b g go c ts nx dp → Calls Tryz.prog 114 #[.pointer (some ⟨b, 0, none⟩)] w' (TyTo w' b g go c ts nx1 dp ex))) :
    Calls Tryz.prog 70 #[.pointer (some ⟨b, 0, none⟩)] w (TyTo w b g go c ts nx1 dp ex) := by
  have HP := Lib.hid (fun w h => peek_any b g go c ts nx dp t w h ht)
  have H := Lib.hid h
  have fl0 := tfield0
  have hbl := h.blt
  have hgl := h.lt
  obtain ⟨tk, tss, tn, tp⟩ := t
  simp only at HP hk
  obtain ⟨S, hS⟩ : ∃ S, S = strB tss := ⟨_, rfl⟩
  rw [← hS] at HP
  subst hk
  clear h ht hS
  go_enter Tryz.func70, Tryz.ntmps70
  go_wp2_with fail
  have H0 := Lib.hid (H.out.below (WS0_below w))
  refine (HP.out _ H0.out).mono ?_
  rintro e w1 ⟨rfl, hb⟩
  have H1 := Lib.hid (H0.out.below hb)
  have HT1 := Lib.hid ((WS0_T w).kept (grown_below hb none) (by simp))
  have HG1 := Lib.hid (grown_trans (grown_below (WS0_below w) (some b)) (grown_below hb _))
  clear hb
  go_wp2_with fail
  refine (HS.out _ HG1.out H1.out).mono ?_
  rintro e w3 ⟨k, n, s, A0, n0, m0, A1, n1, m1, tl, rfl, hr, hw⟩
  have H3 := Lib.hid hw.1
  have HT3 := Lib.hid (HT1.out.kept hw.2 (by simp; omega))
  have HG3 := Lib.hid (grown_trans HG1.out hw.2)
  have hz2 : w.heap.size < w1.heap.size := HT1.out.lt
  have hz3 : w.heap.size < w3.heap.size := HT3.out.lt
  have hz23 := hw.2.size
  have HR3 := Lib.hid hr.tight2
  have hke : (k == 6) = false := by rw [hr.kind]; simpa using he
  clear he
  clear hr hw HS
  have e0 := HT3.out.c0
  have r0 := HT3.out.fz 0
  have e1 := HT3.out.c1
  have r1 := HT3.out.fz 1
  have e2 := HT3.out.c2
  have r2 := HT3.out.fz 2
  have e3 := HT3.out.c3
  have r3 := HT3.out.fz 3
  have e4 := HT3.out.c4
  have r4 := HT3.out.fz 4
  have e5 := HT3.out.c5
  have r5 := HT3.out.fz 5
  have HU3 := Lib.hid (TyBx.new w3 (.int .i64 k) (.int .i64 n) (.string s) (.slice A0 n0 m0) (.slice A1 n1 m1) (.int .i64 tl))
  have q1 : ¬ w.heap.size = w3.heap.size := by omega
  have q2 : ¬ w3.heap.size = w.heap.size := by omega
  go_wp2_with fail
  exact bodyPost_ret (res_applied rfl ((HT3.out.all _ _ _ _ _ _).kept (World.grownBy_alloc _ _ none) (by simp))) rfl ⟨k, n, s, A0, n0, m0, A1, n1, m1, tl, rfl, ((HR3.out.keep (Same.of_grown (set6_grown _ _ _ _ _ _ _ _) (fun x hx => by have := hx.1; simp; omega))).keep (Same.of_grown (World.grownBy_alloc _ _ none) (fun _ _ => by simp))).weaken (fun x hx => by have := hx.1; omega), (H3.out.kept (set6_grown _ _ _ _ _ _ _ _) (by simp; omega) (by simp; omega)).kept (World.grownBy_alloc _ _ none) (by simp) (by simp), grown_trans (grown_6 HG3.out (Nat.le_refl _) _ _ _ _ _ _) (World.grownBy_alloc _ _ _)⟩
set_option maxRecDepth 100000 in
set_option maxHeartbeats 2000000 in
theorem applied_data (b g go c : Nat) (ts : List Rt) (nx nx1 nx2 dp : Nat) (t : Rt)  (u : List UInt8) (l : List Ty) (w : World) (h : PS w b g go c ts nx dp) (ht : ts[nx]? = some t) (hk : t.k = 2)
    (HS : Hid (∀ w', w.grownBy w' (some b) → PS w' b g go c ts nx dp → Calls Tryz.prog 114 #[.pointer (some ⟨b, 0, none⟩)] w' (TyTo w' b g go c ts nx1 dp (.mk 6 0 u [] [] 0))))
    (HA : Hid (∀ w', w.grownBy w' (some b) → PS w' b g go c ts nx1 dp → Calls Tryz.prog 115 #[.pointer (some ⟨b, 0, none⟩)] w' (ArgsTo w' b g go c ts nx2 dp l))) :
    Calls Tryz.prog 70 #[.pointer (some ⟨b, 0, none⟩)] w (TyTo w b g go c ts nx2 dp (.mk 6 0 u l [] 0)) := by
  have HP := Lib.hid (fun w h => peek_any b g go c ts nx dp t w h ht)
  have H := Lib.hid h
  have fl0 := tfield0
  have hbl := h.blt
  have hgl := h.lt
  obtain ⟨tk, tss, tn, tp⟩ := t
  simp only at HP hk
  obtain ⟨S, hS⟩ : ∃ S, S = strB tss := ⟨_, rfl⟩
  rw [← hS] at HP
  subst hk
  clear h ht hS
  go_enter Tryz.func70, Tryz.ntmps70
  go_wp2_with fail
  have H0 := Lib.hid (H.out.below (WS0_below w))
  refine (HP.out _ H0.out).mono ?_
  rintro e w1 ⟨rfl, hb⟩
  have H1 := Lib.hid (H0.out.below hb)
  have HT1 := Lib.hid ((WS0_T w).kept (grown_below hb none) (by simp))
  have HG1 := Lib.hid (grown_trans (grown_below (WS0_below w) (some b)) (grown_below hb _))
  clear hb
  go_wp2_with fail
  refine (HS.out _ HG1.out H1.out).mono ?_
  rintro e w3 ⟨k, n, s, A0, n0, m0, A1, n1, m1, tl, rfl, hr, hw⟩
  have H3 := Lib.hid hw.1
  have HT3 := Lib.hid (HT1.out.kept hw.2 (by simp; omega))
  have HG3 := Lib.hid (grown_trans HG1.out hw.2)
  have hz2 : w.heap.size < w1.heap.size := HT1.out.lt
  have hz3 : w.heap.size < w3.heap.size := HT3.out.lt
  have hz23 := hw.2.size
  have HR3 := Lib.hid hr.tight2
  clear hr hw HS
  obtain ⟨U, hU⟩ : ∃ U, U = strB u := ⟨_, rfl⟩
  obtain ⟨Al, cl, Ar, cr, hsh, hf, _, _⟩ := HR3.out
  unfold tyCells at hsh
  simp only [List.cons.injEq, Value.int.injEq, Value.string.injEq, Value.slice.injEq, and_true, true_and] at hsh
  obtain ⟨rfl, rfl, hs, ⟨_, hn0, _⟩, ⟨_, hn1, _⟩, rfl⟩ := hsh
  rw [← hU] at hs
  subst hs
  simp only [List.length_nil] at hn0 hn1
  subst hn0; subst hn1
  have HF := Lib.hid hf
  have HUe := Lib.hid hU
  clear hf hU HR3
  have HU3 := Lib.hid (TyBx.new w3 (.int .i64 6) (.int .i64 0) (.string s) (.slice Al 0 cl) (.slice Ar 0 cr) (.int .i64 0))
  have hg4 := World.grownBy_alloc w3 (.cells #[.int .i64 6, .int .i64 0, .string s, .slice Al 0 cl, .slice Ar 0 cr, .int .i64 0] 28) none
  have H4 := Lib.hid (H3.out.kept hg4 (by simp) (by simp))
  have HT4 := Lib.hid (HT3.out.kept hg4 (by simp))
  have HG4 := Lib.hid (grown_trans HG3.out (Below.grownBy' hg4))
  clear hg4
  go_wp2_with fail
  obtain ⟨W4, hW4⟩ : ∃ W4, w3.alloc (.cells #[.int .i64 6, .int .i64 0, .string s, .slice Al 0 cl, .slice Ar 0 cr, .int .i64 0] 28) = W4 := ⟨_, rfl⟩
  have hz4 : w3.heap.size < W4.heap.size := by rw [← hW4]; simp
  rw [hW4] at HU3 H4 HT4 HG4 ⊢
  clear hW4
  refine (HA.out _ HG4.out H4.out).mono ?_
  rintro e w5 ⟨A, cap, rfl, hrl, hcp, hw⟩
  have H5 := Lib.hid hw.1
  have HT5 := Lib.hid (HT4.out.kept hw.2 (by simp; omega))
  have HU5 := Lib.hid (HU3.out.kept hw.2 (by simp; omega))
  have HG5 := Lib.hid (grown_trans HG4.out hw.2)
  have hz5 := hw.2.size
  have HL5 := Lib.hid hrl
  have HCp := Lib.hid hcp
  have q1 : ¬ w.heap.size = w3.heap.size := by omega
  have q2 : ¬ w3.heap.size = w.heap.size := by omega
  have hz6 : w.heap.size < w5.heap.size := by omega
  have hz7 : w3.heap.size < w5.heap.size := by omega
  have e0 := HT5.out.c0
  have r0 := HT5.out.fz 0
  have e1 := HT5.out.c1
  have r1 := HT5.out.fz 1
  have e2 := HT5.out.c2
  have r2 := HT5.out.fz 2
  have e3 := HT5.out.c3
  have r3 := HT5.out.fz 3
  have e4 := HT5.out.c4
  have r4 := HT5.out.fz 4
  have e5 := HT5.out.c5
  have r5 := HT5.out.fz 5
  have d0 := HU5.out.c0
  have d1 := HU5.out.c1
  have d2 := HU5.out.c2
  have d3 := HU5.out.c3
  have d4 := HU5.out.c4
  have d5 := HU5.out.c5
  have s3 := HU5.out.fz 3
  clear hw hrl hcp
  go_wp2_with fail
  have HS6 : Same (fun x => W4.heap.size ≤ x) w5 (set6 (w5.setCell ⟨w3.heap.size, 3, none⟩ (.slice A l.length cap)) w.heap.size (.int .i64 6) (.int .i64 0) (.string s) (.slice A l.length cap) (.slice Ar 0 cr) (.int .i64 0)) :=
    (Same.of_grown (grown_set w5 ⟨w3.heap.size, 3, none⟩ _) (fun x hx => by simp; omega)).trans (Same.of_grown (set6_grown _ _ _ _ _ _ _ _) (fun x hx => by simp; omega))
  refine bodyPost_ret (res_applied rfl ((HT5.out.kept (grown_set w5 ⟨w3.heap.size, 3, none⟩ _) (by simp; omega)).all _ _ _ _ _ _)) rfl ⟨6, 0, s, A, l.length, cap, Ar, 0, cr, 0, rfl, ⟨A, cap, Ar, cr, by rw [HUe.out]; rfl, ⟨HF.out.hk, HF.out.hn, HF.out.hs, HF.out.htl, HF.out.hls, HCp.out, HF.out.hcr⟩, fun h => absurd rfl h, fun h0 => ?_⟩, (H5.out.other (by omega) (by omega) _).kept (set6_grown _ _ _ _ _ _ _ _) (by simp; omega) (by simp; omega), grown_6 (grown_new HG5.out (by omega) _) (Nat.le_refl _) _ _ _ _ _ _⟩
  obtain ⟨x, off, e, h1, h2, h3⟩ := HL5.out h0
  exact ⟨x, off, e, by omega, Nat.lt_of_lt_of_le h2 HS6.1, (h3.keep HS6 h1 h2).weaken (fun y hy => by omega)⟩
end Go.Proofs.YtbfojibhdadglaaGreatDoor
/- The parser of types: a function's type, and one that is none. -/
namespace Go.Proofs.YtbfojibhdadglaaGreatDoor
open Go.RowKit

theorem res_ft1 {tmps : Array Value} {w : World} {g : Nat} {v0 v1 v2 v3 v4 v5 : Value} (h2 : tmps.getD 1 undef = .pointer (some ⟨g, 0, none⟩)) (h : TyBx w g v0 v1 v2 v3 v4 v5) :
    (results Tryz.f69 tmps).run Tryz.prog w = .ok (.agg #[v0, v1, v2, v3, v4, v5]) w := by
  have c0 := h.c0
  have c1 := h.c1
  have c2 := h.c2
  have c3 := h.c3
  have c4 := h.c4
  have c5 := h.c5
  have h2' : tmps[1]?.getD undef = .pointer (some ⟨g, 0, none⟩) := by simpa using h2
  simp [results, Tryz.results69, go_sem, h2', c0, c1, c2, c3, c4, c5]
set_option maxRecDepth 100000 in
set_option maxHeartbeats 2000000 in
theorem ft1_none (x b g go c : Nat) (ts : List Rt) (nx nx1 dp : Nat) (t1 : Rt) (e0 : Ty) (w : World) (h : PS w b g go c ts nx dp) (hx : BoxP w x b) (ht1 : ts[nx1]? = some t1) (hs1 : t1.s ≠ [45, 62])
    (HA : Hid (∀ w', w.grownBy w' (some b) → PS w' b g go c ts nx dp → Calls Tryz.prog 70 #[.pointer (some ⟨b, 0, none⟩)] w' (TyTo w' b g go c ts nx1 dp e0))) :
    Calls Tryz.prog 69 #[.pointer (some ⟨x, 0, none⟩)] w (TyTo w b g go c ts nx1 dp e0) := by
  have HS := Lib.hid (fun w h => skip_no b g go c ts nx1 dp t1 ⟨#[45, 62]⟩ w h ht1 hs1)
  have H := Lib.hid h
  have HX := Lib.hid hx
  have hbl := h.blt
  have hgl := h.lt
  have hxl := hx.lt
  have hxb := hx.ne h
  have cx := hx.c
  clear h ht1 hs1 hx
  go_enter Tryz.func69, Tryz.ntmps69
  go_wp2_with fail
  have H0 := Lib.hid (H.out.below (WS0_below w))
  have HX0 := Lib.hid (HX.out.kept (grown_below (WS0_below w) none) (by simp))
  refine (HA.out _ (grown_below (WS0_below w) _) H0.out).mono ?_
  rintro e w1 ⟨k, n, s, A0, n0, m0, A1, n1, m1, t0, rfl, hr, hw⟩
  have H1 := Lib.hid hw.1
  have HT1 := Lib.hid ((WS0_T w).kept hw.2 (by simp; omega))
  have HX1 := Lib.hid (HX0.out.kept hw.2 (by simpa using hxb))
  have HG1 := Lib.hid (grown_trans (grown_below (WS0_below w) (some b)) hw.2)
  have HR1 := Lib.hid ((hr.weaken (Q := fun y => w.heap.size < y) (fun y hy => by rw [WS0_size] at hy; omega)).tight2)
  have hz1 : w.heap.size < w1.heap.size := HT1.out.lt
  have cx1 := HX1.out.c
  have hx1 := HX1.out.lt
  clear hr hw HA
  go_wp2_with fail
  obtain ⟨W2, hW2⟩ : ∃ W2, w1.alloc (.cells #[.int .i64 k, .int .i64 n, .string s, .slice A0 n0 m0, .slice A1 n1 m1, .int .i64 t0] 28) = W2 := ⟨_, rfl⟩
  have hg2 : w1.grownBy W2 none := by rw [← hW2]; exact World.grownBy_alloc _ _ _
  have hz2 : w1.heap.size < W2.heap.size := by rw [← hW2]; simp
  have HU2 : Hid (TyBx W2 w1.heap.size (.int .i64 k) (.int .i64 n) (.string s) (.slice A0 n0 m0) (.slice A1 n1 m1) (.int .i64 t0)) := Lib.hid (by rw [← hW2]; exact TyBx.new w1 _ _ _ _ _ _)
  rw [hW2]
  have H2 := Lib.hid (H1.out.kept hg2 (by simp) (by simp))
  have HT2 := Lib.hid (HT1.out.kept hg2 (by simp))
  have HX2 := Lib.hid (HX1.out.kept hg2 (by simp))
  have HG2 := Lib.hid (grown_trans HG1.out (Below.grownBy' hg2))
  have HR2 := Lib.hid (HR1.out.keep (Same.of_grown hg2 (fun _ _ => by simp)))
  clear hW2 hg2 cx1 hx1
  refine (HS.out _ H2.out).mono ?_
  rintro e w3 ⟨rfl, hb⟩
  have H3 := Lib.hid (H2.out.below hb)
  have HT3 := Lib.hid (HT2.out.kept (grown_below hb none) (by simp))
  have HU3 := Lib.hid (HU2.out.kept (grown_below hb none) (by simp))
  have HG3 := Lib.hid (grown_trans HG2.out (grown_below hb _))
  have HR3 := Lib.hid (HR2.out.keep (Same.of_below hb))
  have hz3 := hb.size
  have e0 := HT3.out.c0
  have e1 := HT3.out.c1
  have e2 := HT3.out.c2
  have e3 := HT3.out.c3
  have e4 := HT3.out.c4
  have e5 := HT3.out.c5
  have r0 := HT3.out.fz 0
  have r1 := HT3.out.fz 1
  have r2 := HT3.out.fz 2
  have r3 := HT3.out.fz 3
  have r4 := HT3.out.fz 4
  have r5 := HT3.out.fz 5
  have d0 := HU3.out.c0
  have d1 := HU3.out.c1
  have d2 := HU3.out.c2
  have d3 := HU3.out.c3
  have d4 := HU3.out.c4
  have d5 := HU3.out.c5
  clear hb
  go_wp2_with fail
  exact bodyPost_ret (res_ft1 rfl (HT3.out.all _ _ _ _ _ _)) rfl ⟨k, n, s, A0, n0, m0, A1, n1, m1, t0, rfl, (HR3.out.keep (Same.of_grown (set6_grown _ _ _ _ _ _ _ _) (fun y hy => by have := hy.1; simp; omega))).weaken (fun y hy => by have := hy.1; omega), H3.out.kept (set6_grown _ _ _ _ _ _ _ _) (by simp; omega) (by simp; omega), grown_6 HG3.out (Nat.le_refl _) _ _ _ _ _ _⟩
theorem rep_funT {P : Nat → Prop} {w : World} {a e : Ty} {g cap : Nat} {A : Option Addr} {ls : List (List UInt8 × Int)} {tl : Int} {xs ys : List Value} (hp : P g) (hg : g < w.heap.size) (hc : CellsAt w g 0 (xs ++ ys)) (ha : RepT P w a xs) (he : RepT P w e ys)
    (hA : LabsAt P w A ls) (hcp : ls.length ≤ cap ∧ cap ≤ maxLen) (hls : ∀ x ∈ ls, okS x.1 ∧ okN x.2) (htl : okN tl) :
    RepT P w (.mk 5 0 [] [a, e] ls tl) [.int .i64 5, .int .i64 0, .string ⟨#[]⟩, .slice (some ⟨g, 0, none⟩) 2 2, .slice A ls.length cap, .int .i64 tl] := by
  refine ⟨some ⟨g, 0, none⟩, 2, A, cap, rfl, ⟨okN_small (by omega), okN_small (by omega), okS_nil, htl, hls, ⟨Nat.le_refl _, by unfold maxLen; omega⟩, hcp⟩, hA, fun _ => ⟨g, 0, rfl, hp, hg, ⟨xs, ha.six, fun i v hi => ?_, ha⟩, ⟨ys, he.six, fun i v hi => ?_, he⟩, trivial⟩⟩
  · exact hc i v (by rw [List.getElem?_append_left (List.getElem?_eq_some_iff.1 hi).1]; exact hi)
  · have := hc (6 + i) v (by rw [List.getElem?_append_right (by rw [ha.six]; omega), ha.six, Nat.add_sub_cancel_left]; exact hi)
    simpa using this
set_option maxRecDepth 100000 in
set_option maxHeartbeats 2000000 in
theorem ft1_arrow (x b g go c : Nat) (ts : List Rt) (nx nx1 nx2 nx3 dp : Nat) (t1 : Rt) (e0 e1 : Ty) (ls : List (List UInt8 × Int)) (tl : Int) (w : World) (h : PS w b g go c ts nx dp) (hx : BoxP w x b) (ht1 : ts[nx1]? = some t1) (hs1 : t1.s = [45, 62]) (hlen : ts.length ≤ 100000) (hls : ∀ x ∈ ls, okS x.1 ∧ okN x.2) (htl : okN tl)
    (HA : Hid (∀ w', w.grownBy w' (some b) → PS w' b g go c ts nx dp → Calls Tryz.prog 70 #[.pointer (some ⟨b, 0, none⟩)] w' (TyTo w' b g go c ts nx1 dp e0)))
    (HR : Hid (∀ w', w.grownBy w' (some b) → PS w' b g go c ts (nx1 + 1) dp → Calls Tryz.prog 72 #[.pointer (some ⟨b, 0, none⟩)] w' (RowTo w' b g go c ts nx2 dp ls tl)))
    (HF : Hid (∀ w', w.grownBy w' (some b) → PS w' b g go c ts nx2 dp → Calls Tryz.prog 23 #[.pointer (some ⟨b, 0, none⟩)] w' (TyTo w' b g go c ts nx3 dp e1))) :
    Calls Tryz.prog 69 #[.pointer (some ⟨x, 0, none⟩)] w (TyTo w b g go c ts nx3 dp (.mk 5 0 [] [e0, e1] ls tl)) := by
  have HS := Lib.hid (fun w h => skip_yes b g go c ts nx1 dp t1 ⟨#[45, 62]⟩ w h ht1 hs1 hlen)
  have HLs := Lib.hid hls
  have HTl := Lib.hid htl
  have H := Lib.hid h
  have HX := Lib.hid hx
  have hbl := h.blt
  have hgl := h.lt
  have hxl := hx.lt
  have hxb := hx.ne h
  have cx := hx.c
  clear h ht1 hs1 hlen hx hls htl
  go_enter Tryz.func69, Tryz.ntmps69
  go_wp2_with fail
  have H0 := Lib.hid (H.out.below (WS0_below w))
  have HX0 := Lib.hid (HX.out.kept (grown_below (WS0_below w) none) (by simp))
  refine (HA.out _ (grown_below (WS0_below w) _) H0.out).mono ?_
  rintro e w1 ⟨k, n, s, A0, n0, m0, A1, n1, m1, t0, rfl, hr, hw⟩
  have H1 := Lib.hid hw.1
  have HT1 := Lib.hid ((WS0_T w).kept hw.2 (by simp; omega))
  have HX1 := Lib.hid (HX0.out.kept hw.2 (by simpa using hxb))
  have HG1 := Lib.hid (grown_trans (grown_below (WS0_below w) (some b)) hw.2)
  have HR1 := Lib.hid ((hr.weaken (Q := fun y => w.heap.size < y) (fun y hy => by rw [WS0_size] at hy; omega)).tight2)
  have hz1 : w.heap.size < w1.heap.size := HT1.out.lt
  have cx1 := HX1.out.c
  have hx1 := HX1.out.lt
  clear hr hw HA
  go_wp2_with fail
  obtain ⟨W2, hW2⟩ : ∃ W2, w1.alloc (.cells #[.int .i64 k, .int .i64 n, .string s, .slice A0 n0 m0, .slice A1 n1 m1, .int .i64 t0] 28) = W2 := ⟨_, rfl⟩
  have hg2 : w1.grownBy W2 none := by rw [← hW2]; exact World.grownBy_alloc _ _ _
  have hz2 : w1.heap.size < W2.heap.size := by rw [← hW2]; simp
  have HU2 : Hid (TyBx W2 w1.heap.size (.int .i64 k) (.int .i64 n) (.string s) (.slice A0 n0 m0) (.slice A1 n1 m1) (.int .i64 t0)) := Lib.hid (by rw [← hW2]; exact TyBx.new w1 _ _ _ _ _ _)
  rw [hW2]
  have H2 := Lib.hid (H1.out.kept hg2 (by simp) (by simp))
  have HT2 := Lib.hid (HT1.out.kept hg2 (by simp))
  have HX2 := Lib.hid (HX1.out.kept hg2 (by simp))
  have HG2 := Lib.hid (grown_trans HG1.out (Below.grownBy' hg2))
  have HR2 := Lib.hid (HR1.out.keep (Same.of_grown hg2 (fun _ _ => by simp)))
  clear hW2 hg2 cx1 hx1
  refine (HS.out _ H2.out).mono ?_
  rintro e w3 ⟨rfl, hw⟩
  have H3 := Lib.hid hw.1
  have HT3 := Lib.hid (HT2.out.kept hw.2 (by simp; omega))
  have HU3 := Lib.hid (HU2.out.kept hw.2 (by simp; omega))
  have HX3 := Lib.hid (HX2.out.kept hw.2 (by simpa using hxb))
  have HG3 := Lib.hid (grown_trans HG2.out hw.2)
  have HR3 := Lib.hid (HR2.out.keep (Same.of_grown hw.2 (fun y hy => by have := hy.1; simp; omega)))
  have hz3 := hw.2.size
  have cx3 := HX3.out.c
  have hx3 := HX3.out.lt
  clear hw
  go_wp2_with fail
  refine (HR.out _ HG3.out H3.out).mono ?_
  rintro e w4 ⟨Ar, cr, rfl, hla, hcp, hw⟩
  have H4 := Lib.hid hw.1
  have HT4 := Lib.hid (HT3.out.kept hw.2 (by simp; omega))
  have HU4 := Lib.hid (HU3.out.kept hw.2 (by simp; omega))
  have HX4 := Lib.hid (HX3.out.kept hw.2 (by simpa using hxb))
  have HG4 := Lib.hid (grown_trans HG3.out hw.2)
  have HR4 := Lib.hid (HR3.out.keep (Same.of_grown hw.2 (fun y hy => by have := hy.1; simp; omega)))
  have HA4 := Lib.hid (hla.weaken (Q := fun y => w.heap.size < y) (fun y hy => by omega))
  have HCp := Lib.hid hcp
  have hz4 := hw.2.size
  have cx4 := HX4.out.c
  have hx4 := HX4.out.lt
  clear hw hla hcp HR cx3 hx3
  go_wp2_with fail
  obtain ⟨W5, hW5⟩ : ∃ W5, w4.alloc (.cells #[.slice Ar ls.length cr, .int .i64 tl] 26) = W5 := ⟨_, rfl⟩
  have hg5 : w4.grownBy W5 none := by rw [← hW5]; exact World.grownBy_alloc _ _ _
  have hz5 : w4.heap.size < W5.heap.size := by rw [← hW5]; simp
  have HV5 : Hid (B2 W5 w4.heap.size 26 (.slice Ar ls.length cr) (.int .i64 tl)) := Lib.hid (by rw [← hW5]; exact B2.new w4 _ _ _)
  rw [hW5]
  have H5 := Lib.hid (H4.out.kept hg5 (by simp) (by simp))
  have HT5 := Lib.hid (HT4.out.kept hg5 (by simp))
  have HU5 := Lib.hid (HU4.out.kept hg5 (by simp))
  have HG5 := Lib.hid (grown_trans HG4.out (Below.grownBy' hg5))
  have HR5 := Lib.hid (HR4.out.keep (Same.of_grown hg5 (fun _ _ => by simp)))
  have HA5 := Lib.hid (HA4.out.keep (Same.of_grown hg5 (fun _ _ => by simp)))
  clear hW5 hg5 cx4 hx4
  refine (HF.out _ HG5.out H5.out).mono ?_
  rintro e w6 ⟨k', n', s', B0, p0, q0, B1, p1, q1, t0', rfl, hr, hw⟩
  have H6 := Lib.hid hw.1
  have HT6 := Lib.hid (HT5.out.kept hw.2 (by simp; omega))
  have HU6 := Lib.hid (HU5.out.kept hw.2 (by simp; omega))
  have HV6 := Lib.hid (HV5.out.kept hw.2 (by simp; omega))
  have HG6 := Lib.hid (grown_trans HG5.out hw.2)
  have HR6 := Lib.hid (HR5.out.keep (Same.of_grown hw.2 (fun y hy => by have := hy.1; simp; omega)))
  have HA6 := Lib.hid (HA5.out.keep (Same.of_grown hw.2 (fun y hy => by simp; omega)))
  have HQ6 := Lib.hid (hr.weaken (Q := fun y => w.heap.size < y) (fun y hy => by omega))
  have hz6 := hw.2.size
  clear hr hw HF
  have ee0 := HT6.out.c0
  have ee1 := HT6.out.c1
  have ee2 := HT6.out.c2
  have ee3 := HT6.out.c3
  have ee4 := HT6.out.c4
  have ee5 := HT6.out.c5
  have r0 := HT6.out.fz 0
  have r1 := HT6.out.fz 1
  have r2 := HT6.out.fz 2
  have r3 := HT6.out.fz 3
  have r4 := HT6.out.fz 4
  have r5 := HT6.out.fz 5
  have d0 := HU6.out.c0
  have d1 := HU6.out.c1
  have d2 := HU6.out.c2
  have d3 := HU6.out.c3
  have d4 := HU6.out.c4
  have d5 := HU6.out.c5
  have f0 := HV6.out.c0
  have f1 := HV6.out.c1
  have hl1 : w.heap.size < w6.heap.size := by omega
  have hl2 : w1.heap.size < w6.heap.size := by omega
  have hl3 : w4.heap.size < w6.heap.size := by omega
  go_wp2_with fail
  obtain ⟨W7, hW7⟩ : ∃ W7, ((set6 w6 w.heap.size (.int .i64 5) (.int .i64 0) (.string ⟨#[]⟩) (.slice (some ⟨w6.heap.size + 1, 0, none⟩) 2 2) (.slice Ar ls.length cr) (.int .i64 tl)).alloc (.cells #[.int .i64 k', .int .i64 n', .string s', .slice B0 p0 q0, .slice B1 p1 q1, .int .i64 t0'] 28)).alloc (.cells #[.int .i64 k, .int .i64 n, .string s, .slice A0 n0 m0, .slice A1 n1 m1, .int .i64 t0, .int .i64 k', .int .i64 n', .string s', .slice B0 p0 q0, .slice B1 p1 q1, .int .i64 t0'] 28) = W7 := ⟨_, rfl⟩
  have hS7 : w6.grownBy W7 (some w.heap.size) := by rw [← hW7]; exact grown_trans (grown_trans (set6_grown _ _ _ _ _ _ _ _) (World.grownBy_alloc _ _ _)) (World.grownBy_alloc _ _ _)
  have HS7 : Same (fun y => w.heap.size < y) w6 W7 := Same.of_grown hS7 (fun y hy => by simp; omega)
  have HT7 : TyBx W7 w.heap.size (.int .i64 5) (.int .i64 0) (.string ⟨#[]⟩) (.slice (some ⟨w6.heap.size + 1, 0, none⟩) 2 2) (.slice Ar ls.length cr) (.int .i64 tl) := by
    rw [← hW7]; exact ((HT6.out.all _ _ _ _ _ _).kept (World.grownBy_alloc _ _ none) (by simp)).kept (World.grownBy_alloc _ _ none) (by simp)
  have hz7 : W7.heap.size = w6.heap.size + 2 := by rw [← hW7]; simp [set6, World.setCell]
  have HC7 : CellsAt W7 (w6.heap.size + 1) 0 ([.int .i64 k, .int .i64 n, .string s, .slice A0 n0 m0, .slice A1 n1 m1, .int .i64 t0] ++ [.int .i64 k', .int .i64 n', .string s', .slice B0 p0 q0, .slice B1 p1 q1, .int .i64 t0']) := by
    have := cellsAt_new ((set6 w6 w.heap.size (.int .i64 5) (.int .i64 0) (.string ⟨#[]⟩) (.slice (some ⟨w6.heap.size + 1, 0, none⟩) 2 2) (.slice Ar ls.length cr) (.int .i64 tl)).alloc (.cells #[.int .i64 k', .int .i64 n', .string s', .slice B0 p0 q0, .slice B1 p1 q1, .int .i64 t0'] 28)) ([.int .i64 k, .int .i64 n, .string s, .slice A0 n0 m0, .slice A1 n1 m1, .int .i64 t0] ++ [.int .i64 k', .int .i64 n', .string s', .slice B0 p0 q0, .slice B1 p1 q1, .int .i64 t0']) 28
    have hz : ((set6 w6 w.heap.size (.int .i64 5) (.int .i64 0) (.string ⟨#[]⟩) (.slice (some ⟨w6.heap.size + 1, 0, none⟩) 2 2) (.slice Ar ls.length cr) (.int .i64 tl)).alloc (.cells #[.int .i64 k', .int .i64 n', .string s', .slice B0 p0 q0, .slice B1 p1 q1, .int .i64 t0'] 28)).heap.size = w6.heap.size + 1 := by simp [set6, World.setCell]
    rw [hz] at this
    rw [← hW7]
    exact this
  have HG7 : w.grownBy W7 (some b) := by rw [← hW7]; exact grown_trans (grown_trans (grown_6 HG6.out (Nat.le_refl _) _ _ _ _ _ _) (World.grownBy_alloc _ _ _)) (World.grownBy_alloc _ _ _)
  have H7 := H6.out.kept hS7 (by simp; omega) (by simp; omega)
  unfold set6 at hW7
  rw [hW7]
  exact bodyPost_ret (res_ft1 rfl HT7) rfl ⟨5, 0, ⟨#[]⟩, some ⟨w6.heap.size + 1, 0, none⟩, 2, 2, Ar, ls.length, cr, tl, rfl, (rep_funT (P := fun y => w.heap.size < y) (by omega) (by omega) HC7 ((HR6.out.weaken (fun y hy => hy.1)).keep HS7) (HQ6.out.keep HS7) (HA6.out.keep HS7) HCp.out HLs.out HTl.out).weaken (fun y hy => by omega), H7, HG7⟩
end Go.Proofs.YtbfojibhdadglaaGreatDoor
/- The parser of types: a whole text is read. -/
namespace Go.Proofs.YtbfojibhdadglaaGreatDoor
open Go.RowKit

theorem catch_idleT (x a5 a6 : Nat) (w : World) :
    CallsD Tryz.prog 111 #[.pointer (some ⟨x, 0, none⟩), .pointer (some ⟨a5, 0, none⟩), .pointer (some ⟨a6, 0, none⟩)] .returning w fun e u' w' => e = .returned (.tuple #[]) ∧ u' = .returning ∧ w' = w := by
  refine callsD_of_wpS Tryz.func111 rfl fun c₀ cs hu => ?_
  apply wpS_seq
  apply wpS_region
  simp [wpOpsS, go_sem, recoverD, hu, Tryz.ntmps111, Exit.thenS]
  simp only [Array.replicate_succ, Array.replicate_zero, List.push_toArray, List.setIfInBounds_toArray, List.set_cons_succ, List.set_cons_zero, List.append_toArray, List.nil_append, List.cons_append]
  refine wpS_of_wp ?_
  go_wp2_with fail
  cases c₀
  simp_all [bodyPostS, results, Tryz.results111]

/-- the world behind the variables that readAll makes -/
def WT0 (w : World) (b : Nat) : World :=
  (((w.alloc (.cells #[.pointer (some ⟨b, 0, none⟩)] 65)).alloc (.cells #[.int .i64 0, .int .i64 0, .string ⟨#[]⟩, .slice none 0 0, .slice none 0 0, .int .i64 0] 28)).alloc (.cells #[.int .i64 0] 3)).alloc (.cells #[.int .i64 0] 31)
theorem WT0_grown (w : World) (b : Nat) (row : Option Nat) : w.grownBy (WT0 w b) row :=
  grown_trans (grown_trans (grown_trans (World.grownBy_alloc _ _ _) (World.grownBy_alloc _ _ _)) (World.grownBy_alloc _ _ _)) (World.grownBy_alloc _ _ _)
theorem WT0_size (w : World) (b : Nat) : (WT0 w b).heap.size = w.heap.size + 4 := by simp [WT0]
theorem WT0_box (w : World) (b : Nat) : BoxP (WT0 w b) w.heap.size b :=
  (((show BoxP (w.alloc (.cells #[.pointer (some ⟨b, 0, none⟩)] 65)) w.heap.size b from heap_alloc_new w _).kept (World.grownBy_alloc _ _ none) (by simp)).kept (World.grownBy_alloc _ _ none) (by simp)).kept (World.grownBy_alloc _ _ none) (by simp)
theorem WT0_E (w : World) (b : Nat) : TyBx (WT0 w b) (w.heap.size + 1) (.int .i64 0) (.int .i64 0) (.string ⟨#[]⟩) (.slice none 0 0) (.slice none 0 0) (.int .i64 0) := by
  have := TyBx.new (w.alloc (.cells #[.pointer (some ⟨b, 0, none⟩)] 65)) (.int .i64 0) (.int .i64 0) (.string ⟨#[]⟩) (.slice none 0 0) (.slice none 0 0) (.int .i64 0)
  rw [World.size_alloc] at this
  exact (this.kept (World.grownBy_alloc _ _ none) (by simp)).kept (World.grownBy_alloc _ _ none) (by simp)
theorem WT0_5 (w : World) (b : Nat) : B1 (WT0 w b) (w.heap.size + 1 + 1) 3 (.int .i64 0) := by
  have := B1.new ((w.alloc (.cells #[.pointer (some ⟨b, 0, none⟩)] 65)).alloc (.cells #[.int .i64 0, .int .i64 0, .string ⟨#[]⟩, .slice none 0 0, .slice none 0 0, .int .i64 0] 28)) 3 (.int .i64 0)
  rw [World.size_alloc, World.size_alloc] at this
  exact this.kept (World.grownBy_alloc _ _ none) (by simp)
theorem WT0_6 (w : World) (b : Nat) : B1 (WT0 w b) (w.heap.size + 1 + 1 + 1) 31 (.int .i64 0) := by
  have := B1.new (((w.alloc (.cells #[.pointer (some ⟨b, 0, none⟩)] 65)).alloc (.cells #[.int .i64 0, .int .i64 0, .string ⟨#[]⟩, .slice none 0 0, .slice none 0 0, .int .i64 0] 28)).alloc (.cells #[.int .i64 0] 3)) 31 (.int .i64 0)
  rw [World.size_alloc, World.size_alloc, World.size_alloc] at this
  exact this
/-- what readAll returns of a text that is read -/
def AllToT (w : World) (b : Nat) (ex : Ty) (e : Ending) (w' : World) : Prop :=
  ∃ (k n : Int) (s : ByteArray) (A0 : Option Addr) (n0 c0 : Nat) (A1 : Option Addr) (n1 c1 : Nat) (tl : Int), e = .returned (.tuple #[.agg #[.int .i64 k, .int .i64 n, .string s, .slice A0 n0 c0, .slice A1 n1 c1, .int .i64 tl], .int .i64 0, .int .i64 0]) ∧
    RepT (fun x => w.heap.size ≤ x) w' ex [.int .i64 k, .int .i64 n, .string s, .slice A0 n0 c0, .slice A1 n1 c1, .int .i64 tl] ∧ w.grownBy w' (some b)

theorem res_allT {tmps : Array Value} {w : World} {g a5 a6 : Nat} {v0 v1 v2 v3 v4 v5 x5 x6 : Value} (h4 : tmps.getD 4 undef = .pointer (some ⟨g, 0, none⟩)) (h5 : tmps.getD 5 undef = .pointer (some ⟨a5, 0, none⟩)) (h6 : tmps.getD 6 undef = .pointer (some ⟨a6, 0, none⟩))
    (h : TyBx w g v0 v1 v2 v3 v4 v5) (k5 : B1 w a5 3 x5) (k6 : B1 w a6 31 x6) :
    (results Tryz.f67 tmps).run Tryz.prog w = .ok (.tuple #[.agg #[v0, v1, v2, v3, v4, v5], x5, x6]) w := by
  have c0 := h.c0
  have c1 := h.c1
  have c2 := h.c2
  have c3 := h.c3
  have c4 := h.c4
  have c5 := h.c5
  have y5 := k5.c
  have y6 := k6.c
  have h4' : tmps[4]?.getD undef = .pointer (some ⟨g, 0, none⟩) := by simpa using h4
  have h5' : tmps[5]?.getD undef = .pointer (some ⟨a5, 0, none⟩) := by simpa using h5
  have h6' : tmps[6]?.getD undef = .pointer (some ⟨a6, 0, none⟩) := by simpa using h6
  simp [results, Tryz.results67, go_sem, h4', h5', h6', c0, c1, c2, c3, c4, c5, y5, y6]

set_option maxRecDepth 100000 in
set_option maxHeartbeats 2000000 in
theorem readAllT_ok (b g go c : Nat) (ts : List Rt) (nx : Nat) (ex : Ty) (t : Rt) (w : World) (h : PS w b g go c ts 0 0) (ht : ts[nx]? = some t) (hk : t.k = 5) (hlen : ts.length ≤ 100000)
    (HC : Hid (∀ w', w.grownBy w' (some b) → PS w' b g go c ts 0 0 → Calls Tryz.prog 23 #[.pointer (some ⟨b, 0, none⟩)] w' (TyTo w' b g go c ts nx 0 ex))) :
    Calls Tryz.prog 67 #[.pointer (some ⟨b, 0, none⟩), .func (.func 23) #[] #[]] w (AllToT w b ex) := by
  have hmf : ∀ (fn : Fn) (first cap : Array Value) (w : World), (Instr.makeFunc fn first cap).run Tryz.prog w = .ok (.func fn first cap) w := fun _ _ _ _ => rfl
  have hbl := h.blt
  have hgl := h.lt
  have HTk := Lib.hid (fun w h => token_ok b g go c ts nx 0 t w h ht hlen)
  rw [hk] at HTk
  have H0 : Hid (PS (WT0 w b) b g go c ts 0 0) := h.kept (WT0_grown w b none) (by simp) (by simp)
  have HX0 := Lib.hid (WT0_box w b)
  have HE0 := Lib.hid (WT0_E w b)
  have H50 := Lib.hid (WT0_5 w b)
  have H60 := Lib.hid (WT0_6 w b)
  have HG0 := Lib.hid (WT0_grown w b (some b))
  have HZ0 := Lib.hid (WT0_size w b)
  clear h ht hk hlen
  go_enter_defers Tryz.func67, Tryz.ntmps67
  go_wp2_with fail
  refine (HC.out _ HG0.out H0.out).mono ?_
  rintro e w2 ⟨k, n, s, A0, n0, m0, A1, n1, m1, tl, rfl, hr, hw⟩
  have hz := HZ0.out
  have hzg := hw.2.size
  have HR2 := Lib.hid (hr.weaken (Q := fun x => w.heap.size + 4 ≤ x) (fun x hx => by omega)).tight2
  have HP2 := Lib.hid hw.1
  have HX2 := Lib.hid (HX0.out.kept hw.2 (by simp; omega))
  have HE2 := Lib.hid (HE0.out.kept hw.2 (by simp; omega))
  have H52 := Lib.hid (H50.out.kept hw.2 (by simp; omega))
  have H62 := Lib.hid (H60.out.kept hw.2 (by simp; omega))
  have HG2 := Lib.hid (grown_trans HG0.out hw.2)
  have hz2 : w.heap.size + 4 ≤ w2.heap.size := by omega
  have x2 := HX2.out.c
  have x2l := HX2.out.lt
  clear hr hw hz hzg HC
  go_wp2_with fail
  obtain ⟨W3, hW3⟩ : ∃ W3, w2.alloc (.cells #[.int .i64 k, .int .i64 n, .string s, .slice A0 n0 m0, .slice A1 n1 m1, .int .i64 tl] 28) = W3 := ⟨_, rfl⟩
  have hg3 : w2.grownBy W3 none := by rw [← hW3]; exact World.grownBy_alloc _ _ _
  have HP3 := Lib.hid (HP2.out.kept hg3 (by simp) (by simp))
  have HX3 := Lib.hid (HX2.out.kept hg3 (by simp))
  have HE3 := Lib.hid (HE2.out.kept hg3 (by simp))
  have H53 := Lib.hid (H52.out.kept hg3 (by simp))
  have H63 := Lib.hid (H62.out.kept hg3 (by simp))
  have HG3 := Lib.hid (grown_trans HG2.out (Below.grownBy' hg3))
  have HT3 : Hid (TyBx W3 w2.heap.size (.int .i64 k) (.int .i64 n) (.string s) (.slice A0 n0 m0) (.slice A1 n1 m1) (.int .i64 tl)) := by rw [← hW3]; exact TyBx.new w2 _ _ _ _ _ _
  have HR3 := Lib.hid (HR2.out.keep (Same.of_grown hg3 (fun _ _ => by simp)))
  rw [hW3]
  clear hW3 hg3 x2 x2l
  refine (HTk.out _ HP3.out).mono ?_
  rintro e w4 ⟨rfl, hw⟩
  have HX4 := Lib.hid (HX3.out.kept hw.2 (by simp; omega))
  have HE4 := Lib.hid (HE3.out.kept hw.2 (by simp; omega))
  have H54 := Lib.hid (H53.out.kept hw.2 (by simp; omega))
  have H64 := Lib.hid (H63.out.kept hw.2 (by simp; omega))
  have HT4 := Lib.hid (HT3.out.kept hw.2 (by simp; omega))
  have HG4 := Lib.hid (grown_trans HG3.out hw.2)
  have HR4 := Lib.hid (HR3.out.keep (Same.of_grown hw.2 (fun x hx => by have h1 := hx.1; simp; omega)))
  have e0 := HE4.out.c0
  have r0 := HE4.out.fz 0
  have d0 := HT4.out.c0
  have e1 := HE4.out.c1
  have r1 := HE4.out.fz 1
  have d1 := HT4.out.c1
  have e2 := HE4.out.c2
  have r2 := HE4.out.fz 2
  have d2 := HT4.out.c2
  have e3 := HE4.out.c3
  have r3 := HE4.out.fz 3
  have d3 := HT4.out.c3
  have e4 := HE4.out.c4
  have r4 := HE4.out.fz 4
  have d4 := HT4.out.c4
  have e5 := HE4.out.c5
  have r5 := HE4.out.fz 5
  have d5 := HT4.out.c5
  have x5 := H54.out.c
  have y5 := H54.out.fr 0
  have x6 := H64.out.c
  have y6 := H64.out.fr 0
  clear hw
  go_wp2_with fail
  obtain ⟨W5, hW5⟩ : ∃ W5, ((set6 w4 (w.heap.size + 1) (.int .i64 k) (.int .i64 n) (.string s) (.slice A0 n0 m0) (.slice A1 n1 m1) (.int .i64 tl)).setCell ⟨w.heap.size + 1 + 1, 0, none⟩ (.int .i64 0)).setCell ⟨w.heap.size + 1 + 1 + 1, 0, none⟩ (.int .i64 0) = W5 := ⟨_, rfl⟩
  have HE5 : Hid (TyBx W5 (w.heap.size + 1) (.int .i64 k) (.int .i64 n) (.string s) (.slice A0 n0 m0) (.slice A1 n1 m1) (.int .i64 tl)) := by
    rw [← hW5]; exact ((HE4.out.all _ _ _ _ _ _).kept (grown_set _ ⟨w.heap.size + 1 + 1, 0, none⟩ _) (by simp)).kept (grown_set _ ⟨w.heap.size + 1 + 1 + 1, 0, none⟩ _) (by simp <;> omega)
  have H55 : Hid (B1 W5 (w.heap.size + 1 + 1) 3 (.int .i64 0)) := by
    rw [← hW5]; exact ((H54.out.kept (set6_grown _ _ _ _ _ _ _ _) (by simp <;> omega)).set _).kept (grown_set _ ⟨w.heap.size + 1 + 1 + 1, 0, none⟩ _) (by simp)
  have H65 : Hid (B1 W5 (w.heap.size + 1 + 1 + 1) 31 (.int .i64 0)) := by
    rw [← hW5]; exact ((H64.out.kept (set6_grown _ _ _ _ _ _ _ _) (by simp <;> omega)).kept (grown_set _ ⟨w.heap.size + 1 + 1, 0, none⟩ _) (by simp <;> omega)).set _
  have HR5 : Hid (RepT (fun x => w.heap.size ≤ x) W5 ex [.int .i64 k, .int .i64 n, .string s, .slice A0 n0 m0, .slice A1 n1 m1, .int .i64 tl]) := by
    rw [← hW5]
    exact (((HR4.out.keep (Same.of_grown (set6_grown _ _ _ _ _ _ _ _) (fun x hx => by have h1 := hx.1; simp; omega))).keep (Same.of_grown (grown_set _ ⟨w.heap.size + 1 + 1, 0, none⟩ _) (fun x hx => by have h1 := hx.1; simp; omega))).keep (Same.of_grown (grown_set _ ⟨w.heap.size + 1 + 1 + 1, 0, none⟩ _) (fun x hx => by have h1 := hx.1; simp; omega))).weaken (fun x hx => by have h1 := hx.1; omega)
  have HG5 : Hid (w.grownBy W5 (some b)) := by
    rw [← hW5]; exact grown_new (grown_new (grown_6 HG4.out (by omega) _ _ _ _ _ _) (by omega) _) (by omega) _
  unfold set6 at hW5
  rw [hW5]
  clear hW5
  refine leaves_cons (f := 111) (args := #[.pointer (some ⟨w.heap.size, 0, none⟩), .pointer (some ⟨w.heap.size + 1 + 1, 0, none⟩), .pointer (some ⟨w.heap.size + 1 + 1 + 1, 0, none⟩)]) (by simp) (by simp [go_sem]) ?_
  refine (catch_idleT _ _ _ _).mono ?_
  rintro e u' w'' ⟨rfl, rfl, rfl⟩
  exact ⟨_, res_allT rfl rfl rfl HE5.out H55.out H65.out, k, n, s, A0, n0, m0, A1, n1, m1, tl, rfl, HR5.out, HG5.out⟩

end Go.Proofs.YtbfojibhdadglaaGreatDoor
/- The parser of types: parse. -/
namespace Go.Proofs.YtbfojibhdadglaaGreatDoor
open Go.RowKit

/-- what parse returns of a text that is read -/
def ParseToT (w : World) (ex : Ty) (e : Ending) (w' : World) : Prop :=
  ∃ (k n : Int) (s : ByteArray) (A0 : Option Addr) (n0 c0 : Nat) (A1 : Option Addr) (n1 c1 : Nat) (tl : Int), e = .returned (.tuple #[.agg #[.int .i64 k, .int .i64 n, .string s, .slice A0 n0 c0, .slice A1 n1 c1, .int .i64 tl], .int .i64 0, .int .i64 0]) ∧
    RepT (fun x => w.heap.size ≤ x) w' ex [.int .i64 k, .int .i64 n, .string s, .slice A0 n0 c0, .slice A1 n1 c1, .int .i64 tl] ∧ Below w.heap.size w w'
theorem res_parseT {tmps : Array Value} {w : World} {g : Nat} {v0 v1 v2 v3 v4 v5 x5 x6 : Value} (h4 : tmps.getD 6 undef = .pointer (some ⟨g, 0, none⟩)) (h5 : tmps.getD 7 undef = x5) (h6 : tmps.getD 8 undef = x6) (h : TyBx w g v0 v1 v2 v3 v4 v5) :
    (results Tryz.f22 tmps).run Tryz.prog w = .ok (.tuple #[.agg #[v0, v1, v2, v3, v4, v5], x5, x6]) w := by
  have c0 := h.c0
  have c1 := h.c1
  have c2 := h.c2
  have c3 := h.c3
  have c4 := h.c4
  have c5 := h.c5
  have h4' : tmps[6]?.getD undef = .pointer (some ⟨g, 0, none⟩) := by simpa using h4
  have h5' : tmps[7]?.getD undef = x5 := by simpa using h5
  have h6' : tmps[8]?.getD undef = x6 := by simpa using h6
  simp [results, Tryz.results22, go_sem, h4', h5', h6', c0, c1, c2, c3, c4, c5]

set_option maxRecDepth 100000 in
set_option maxHeartbeats 4000000 in
theorem parseT_ok (s : ByteArray) (xs : List Tk) (ts : List Rt) (ex : Ty) (w : World) (hY : Syms w) (hs : s.size ≤ 30000) (hlex : lexS s.data.toList = (xs, 0, 0)) (hx : 0 < xs.length ∧ xs.length ≤ 30001) (hts : (xs ++ [(⟨5, [], 0, s.size⟩ : Tk)]).map rtOf = ts)
    (HR : Hid (∀ b g go c w', SyB w' b → PS w' b g go c ts 0 0 → Calls Tryz.prog 67 #[.pointer (some ⟨b, 0, none⟩), .func (.func 23) #[] #[]] w' (AllToT w' b ex)))
    (HK : Hid (∀ k n s A0 n0 c0 A1 n1 c1 tl w', Below w.heap.size w w' → RepT (fun x => w.heap.size ≤ x) w' ex [.int .i64 k, .int .i64 n, .string s, .slice A0 n0 c0, .slice A1 n1 c1, .int .i64 tl] → Calls Tryz.prog 16 #[.agg #[.int .i64 k, .int .i64 n, .string s, .slice A0 n0 c0, .slice A1 n1 c1, .int .i64 tl]] w' fun e w'' => e = .returned (.int .i64 0) ∧ Below w'.heap.size w' w'')) :
    Calls Tryz.prog 22 #[.string s, .func (.func 23) #[] #[], .func (.func 16) #[] #[]] w (ParseToT w ex) := by
  obtain ⟨i0, hi, hz0, hz1, hz2⟩ := info_parts info43
  have hmax : s.size ≤ maxLen := by unfold maxLen; omega
  have HL := Lib.hid (fun w hY => Lex_any s w hY hmax)
  have HY0 := Lib.hid hY
  rw [hlex] at HL
  have HYs : Hid (Syms (w.alloc (.cells #[.int .i64 0, .int .i64 0, .string ⟨#[]⟩, .slice none 0 0, .slice none 0 0, .int .i64 0] 28))) := hY.grown (World.grownBy_alloc _ _ none) (by simp)
  have HE0 := Lib.hid (TyBx.new w (.int .i64 0) (.int .i64 0) (.string ⟨#[]⟩) (.slice none 0 0) (.slice none 0 0) (.int .i64 0))
  have HZ : Hid ((w.alloc (.cells #[.int .i64 0, .int .i64 0, .string ⟨#[]⟩, .slice none 0 0, .slice none 0 0, .int .i64 0] 28)).heap.size = w.heap.size + 1) := Lib.hid (World.size_alloc _ _)
  have HB0 : Hid (Below w.heap.size w (w.alloc (.cells #[.int .i64 0, .int .i64 0, .string ⟨#[]⟩, .slice none 0 0, .slice none 0 0, .int .i64 0] 28))) := Lib.hid ((Below.refl _ _).alloc (Nat.le_refl _) _)
  have hlen : ts.length = xs.length + 1 := by rw [← hts]; simp
  have htok := Lib.hid (fun (w' : World) (base g cap : Nat) (h : w'.ownsRow base 99 4 (.slice (some ⟨g, 0, none⟩) (xs.length + 1) cap) (xs.length + 1) (flat xs ++ tkCells ⟨5, [], 0, s.size⟩)) => tok_cells (ts := ts) (xs := xs) (x := ⟨5, [], 0, s.size⟩) hts h)
  have hxl : 0 < xs.length ∧ xs.length ≤ 30001 := hx
  clear hts hx hlex hY hmax
  go_enter Tryz.func22, Tryz.ntmps22
  go_wp2_with fail
  refine (HL.out _ HYs.out).mono ?_
  rintro e w2 ⟨v, rfl, ho, hb⟩
  simp only at ho ⊢
  rcases ho.2 with ⟨_, h0⟩ | ⟨g0, cap0, cur, rfl, hg0, _⟩
  · omega
  have hzz := HZ.out
  have ho' := ho
  rw [hzz] at ho' hg0
  have HO2 := Lib.hid ho'
  have HE2 := Lib.hid (HE0.out.kept (grown_below hb none) (by simp))
  have HB2 : Hid (Below w.heap.size w w2) := HB0.out.trans (hb.mono (by omega))
  have hzw : w.heap.size + 1 ≤ w2.heap.size := by have := hb.size; omega
  have hgz : w.heap.size + 1 ≤ g0 := hg0
  have HC := Lib.hid (cell_toks w2 ⟨5, [], 0, s.size⟩ 99)
  clear ho ho' hb hzz HE0 HB0 HYs HL hg0
  go_wp2_with (at_builtin; refine wpList_append_own _ rfl _ _ 94 rfl (w.heap.size + 1) 99 i0 (.agg #[.int .i64 0, .string ⟨#[]⟩, .int .i64 0, .int .i64 0]) 4 40 Tryz.underlying94 hi hz0 hz1 hz2 rfl (by decide) _ _ _ rfl (HO2.out.alloc _) ⟨w2.heap.size, 0, none⟩ 1 1 (tkCells ⟨5, [], 0, s.size⟩) rfl rfl HC.out (tk_one ⟨5, [], 0, s.size⟩) (by unfold maxLen; omega) (by omega) (by simp; omega) ?_; intro v' w3 hown' hgrow _; obtain ⟨g, cap, rfl⟩ := ownsRow_succ hown'; have HT3 := Lib.hid (htok.out _ _ _ _ hown'); have HGr := Lib.hid hgrow; have hgl3 := (hown'.lt _ rfl).2; clear hown' hgrow)
  have hz3 : w2.heap.size + 1 ≤ w3.heap.size := by have := HGr.out.size; simpa using this
  have HB3 : Hid (Below w.heap.size w w3) := Lib.hid ((HB2.out.alloc (by omega) _).grown HGr.out (by simp; omega) (fun j e => by have : g0 = j := Option.some.inj e; omega))
  have HE3 := Lib.hid (HE2.out.kept (grown_trans (World.grownBy_alloc w2 _ _) HGr.out) (fun e => by have : w.heap.size = g0 := Option.some.inj e; omega))
  clear HGr HO2 HC HE2 HB2
  refine (HR.out w3.heap.size g 0 cap _ ⟨(HY0.out.below HB3.out HY0.out.pos).grown (World.grownBy_alloc w3 _ none) (by simp), by have h1 := HY0.out.pos; have h2 := HB3.out.size; omega⟩ ⟨by rw [hlen]; exact heap_alloc_new w3 _, by omega, by simp; omega, fun j t hj i v hi => (cell_grown (World.grownBy_alloc w3 _ none) hgl3 (by simp)).trans (HT3.out j t hj i v hi)⟩).mono ?_
  rintro e w5 ⟨k, n, u, A0, n0, m0, A1, n1, m1, tl, rfl, hr5, hg5⟩
  have HB5 : Hid (Below w.heap.size w w5) := Lib.hid ((HB3.out.alloc (by omega) _).grown hg5 (by simp; omega) (fun j e => by cases e; omega))
  have HE5 := Lib.hid ((HE3.out.kept (World.grownBy_alloc w3 _ none) (by simp)).kept hg5 (by simp; omega))
  have hz5 := HE5.out.lt
  have HR5 : Hid (RepT (fun x => w.heap.size < x ∧ x < w5.heap.size) w5 ex [.int .i64 k, .int .i64 n, .string u, .slice A0 n0 m0, .slice A1 n1 m1, .int .i64 tl]) := Lib.hid (hr5.tight2.weaken (fun x hx => by have h1 := hx.1; have h2 := hx.2; simp at h1; omega))
  clear hg5 hr5
  go_wp2_with fail
  refine (HK.out k n u A0 n0 m0 A1 n1 m1 tl _ (HB5.out.alloc HB5.out.size _) ((HR5.out.keep (Same.of_grown (World.grownBy_alloc w5 _ none) (fun _ _ => by simp))).weaken (fun x hx => by have h1 := hx.1; omega))).mono ?_
  rintro e w6 ⟨rfl, hb⟩
  have hg6 : w5.grownBy w6 none := grown_trans (World.grownBy_alloc w5 _ _) (grown_below hb none)
  have HB6 : Hid (Below w.heap.size w w6) := Lib.hid (HB5.out.grown hg6 (by omega) (fun j e => by cases e))
  have HE6 := Lib.hid (HE5.out.kept hg6 (by simp))
  have HT6 := Lib.hid ((TyBx.new w5 (.int .i64 k) (.int .i64 n) (.string u) (.slice A0 n0 m0) (.slice A1 n1 m1) (.int .i64 tl)).kept (grown_below hb none) (by simp))
  have HR6 := Lib.hid (HR5.out.keep (Same.of_grown hg6 (fun _ _ => by simp)))
  have hz6 := hg6.size
  have e0 := HE6.out.c0
  have r0 := HE6.out.fz 0
  have d0 := HT6.out.c0
  have e1 := HE6.out.c1
  have r1 := HE6.out.fz 1
  have d1 := HT6.out.c1
  have e2 := HE6.out.c2
  have r2 := HE6.out.fz 2
  have d2 := HT6.out.c2
  have e3 := HE6.out.c3
  have r3 := HE6.out.fz 3
  have d3 := HT6.out.c3
  have e4 := HE6.out.c4
  have r4 := HE6.out.fz 4
  have d4 := HT6.out.c4
  have e5 := HE6.out.c5
  have r5 := HE6.out.fz 5
  have d5 := HT6.out.c5
  clear hb hg6
  go_wp2_with fail
  exact bodyPost_ret (res_parseT rfl rfl rfl (HE6.out.all _ _ _ _ _ _)) rfl ⟨k, n, u, A0, n0, m0, A1, n1, m1, tl, rfl, (HR6.out.keep (Same.of_grown (set6_grown _ _ _ _ _ _ _ _) (fun x hx => by have h1 := hx.1; simp; omega))).weaken (fun x hx => by have h1 := hx.1; omega), HB6.out.grown (set6_grown _ _ _ _ _ _ _ _) (by omega) (fun j e => by have : w.heap.size = j := Option.some.inj e; omega)⟩
theorem res_pt {tmps : Array Value} {w : World} {g : Nat} {v0 v1 v2 v3 v4 v5 x5 x6 : Value} (h4 : tmps.getD 2 undef = .pointer (some ⟨g, 0, none⟩)) (h5 : tmps.getD 3 undef = x5) (h6 : tmps.getD 4 undef = x6) (h : TyBx w g v0 v1 v2 v3 v4 v5) :
    (results Tryz.f9 tmps).run Tryz.prog w = .ok (.tuple #[.agg #[v0, v1, v2, v3, v4, v5], x5, x6]) w := by
  have c0 := h.c0
  have c1 := h.c1
  have c2 := h.c2
  have c3 := h.c3
  have c4 := h.c4
  have c5 := h.c5
  have h4' : tmps[2]?.getD undef = .pointer (some ⟨g, 0, none⟩) := by simpa using h4
  have h5' : tmps[3]?.getD undef = x5 := by simpa using h5
  have h6' : tmps[4]?.getD undef = x6 := by simpa using h6
  simp [results, Tryz.results9, go_sem, h4', h5', h6', c0, c1, c2, c3, c4, c5]

theorem pt_prep (w : World) : Below w.heap.size w (w.alloc (.cells #[.int .i64 0, .int .i64 0, .string ⟨#[]⟩, .slice none 0 0, .slice none 0 0, .int .i64 0] 28)) := (Below.refl _ _).alloc (Nat.le_refl _) _
set_option maxRecDepth 100000 in
set_option maxHeartbeats 2000000 in
theorem parseType_ok (s : ByteArray) (ex : Ty) (w : World)
    (HP : Hid (∀ w', Below w.heap.size w w' → Calls Tryz.prog 22 #[.string s, .func (.func 23) #[] #[], .func (.func 16) #[] #[]] w' (ParseToT w' ex))) :
    Calls Tryz.prog 9 #[.string s] w (ParseToT w ex) := by
  have HE0 := Lib.hid (TyBx.new w (.int .i64 0) (.int .i64 0) (.string ⟨#[]⟩) (.slice none 0 0) (.slice none 0 0) (.int .i64 0))
  have HB0 := Lib.hid (pt_prep w)
  go_enter Tryz.func9, Tryz.ntmps9
  go_wp2_with fail
  refine (HP.out _ HB0.out).mono ?_
  rintro e w6 ⟨k, n, u, A0, n0, m0, A1, n1, m1, tl, rfl, hr, hb⟩
  have HE6 := Lib.hid (HE0.out.kept (grown_below hb none) (by simp))
  have HB6 := Lib.hid (HB0.out.trans (hb.mono (by simp)))
  have HR6 := Lib.hid (hr.weaken (Q := fun x => w.heap.size < x) (fun x hx => by simp at hx; omega))
  have hz6 := HE6.out.lt
  have e0 := HE6.out.c0
  have r0 := HE6.out.fz 0
  have e1 := HE6.out.c1
  have r1 := HE6.out.fz 1
  have e2 := HE6.out.c2
  have r2 := HE6.out.fz 2
  have e3 := HE6.out.c3
  have r3 := HE6.out.fz 3
  have e4 := HE6.out.c4
  have r4 := HE6.out.fz 4
  have e5 := HE6.out.c5
  have r5 := HE6.out.fz 5
  clear hb hr HP
  go_wp2_with fail
  exact bodyPost_ret (res_pt rfl rfl rfl (HE6.out.all _ _ _ _ _ _)) rfl ⟨k, n, u, A0, n0, m0, A1, n1, m1, tl, rfl, (HR6.out.keep (Same.of_grown (set6_grown _ _ _ _ _ _ _ _) (fun x hx => by simp; omega))).weaken (fun x hx => by omega), HB6.out.grown (set6_grown _ _ _ _ _ _ _ _) (by omega) (fun j e => by have : w.heap.size = j := Option.some.inj e; omega)⟩

end Go.Proofs.YtbfojibhdadglaaGreatDoor
