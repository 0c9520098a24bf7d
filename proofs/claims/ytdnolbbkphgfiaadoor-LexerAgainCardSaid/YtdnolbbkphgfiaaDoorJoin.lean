/- Join: one text of many tokens. -/
import Derived.Test.YtdnolbbkphgfiaaDoorText
import Derived.OwnWalk
import Derived.Lib.JoinLaws
import Derived.Test.YtdnolbbkphgfiaaDoorShelf
namespace Go.Proofs.YtdnolbbkphgfiaaDoor
open Go.RowKit

/-- a token as it came in -/
structure Rt where
  k : Int
  s : ByteArray
  n : Int
  p : Int
def Rt.ok (t : Rt) : Prop := (-9223372036854775808 ≤ t.n ∧ t.n ≤ 9223372036854775807) ∧ t.s.size ≤ maxLen
def Rt.text (t : Rt) : List UInt8 := textS t.k t.s.data.toList t.n
def Rt.valid (t : Rt) : Bool := validS t.k t.s.data.toList t.n
/-- tokens that came in lie in memory -/
def Toks (w : World) (A : Option Addr) (ts : List Rt) : Prop :=
  0 < ts.length → ∃ b off, A = some ⟨b, off, none⟩ ∧ b < w.heap.size ∧ ∀ (j : Nat) (t : Rt), ts[j]? = some t →
    w.cell? ⟨b, off + j * 4, none⟩ = some (.int .i64 t.k) ∧ w.cell? ⟨b, off + j * 4 + 1, none⟩ = some (.string t.s) ∧ w.cell? ⟨b, off + j * 4 + 2, none⟩ = some (.int .i64 t.n) ∧ w.cell? ⟨b, off + j * 4 + 3, none⟩ = some (.int .i64 t.p)
theorem Toks.below {w w' : World} {A : Option Addr} {ts : List Rt} (h : Toks w A ts) (hb : Below w.heap.size w w') : Toks w' A ts := fun h0 => by
  obtain ⟨b, off, e, hlt, hc⟩ := h h0
  refine ⟨b, off, e, Nat.lt_of_lt_of_le hlt hb.size, fun j t hj => ?_⟩
  have := hc j t hj
  exact ⟨(hb.cell (p := ⟨b, _, none⟩) hlt).trans this.1, (hb.cell (p := ⟨b, _, none⟩) hlt).trans this.2.1, (hb.cell (p := ⟨b, _, none⟩) hlt).trans this.2.2.1, (hb.cell (p := ⟨b, _, none⟩) hlt).trans this.2.2.2⟩

theorem info9 : (Tryd.prog.info? 9).map (fun i => (i.zero, i.size, i.bytes)) = some (some (.string ⟨#[]⟩), 1, 16) := by kernel_rfl

def strs (ts : List Rt) : List Value := ts.map fun t => Value.string (strB t.text)
def tot (ts : List Rt) : Nat := (ts.map fun t => t.text.length).sum + (ts.length - 1)
theorem tot_snoc (ts : List Rt) (t : Rt) : tot (ts ++ [t]) = tot ts + (if 0 < ts.length then 1 else 0) + t.text.length := by
  unfold tot
  rw [List.map_append, List.sum_append, List.length_append]
  simp only [List.map_cons, List.map_nil, List.sum_cons, List.sum_nil, List.length_cons, List.length_nil]
  split <;> omega
theorem strs_snoc (ts : List Rt) (t : Rt) : strs (ts ++ [t]) = strs ts ++ [Value.string (strB t.text)] := by simp [strs]
theorem take_snoc' {α : Type} (l : List α) (k : Nat) (h : k < l.length) : l.take (k + 1) = l.take k ++ [l[k]] := by
  rw [List.take_succ_eq_append_getElem h]
def joinS (ts : List Rt) : List UInt8 × Int := if ts.all (fun t => t.valid) then (if 30000 < tot ts then ([], 3) else (Lib.join (ts.map (fun t => t.text)) [32], 0)) else ([], 1)
def JoinRes (r : List UInt8 × Int) : Ending := .returned (.tuple #[.string (strB r.1), .int .i64 r.2])
theorem JoinRes_mk {r : List UInt8 × Int} {l : List UInt8} {e : Int} (h : r = (l, e)) : Ending.returned (.tuple #[.string (strB l), .int .i64 e]) = JoinRes r := by rw [h]; rfl
theorem JoinRes_nil {r : List UInt8 × Int} {e : Int} (h : r = ([], e)) : Ending.returned (.tuple #[.string ⟨#[]⟩, .int .i64 e]) = JoinRes r := by rw [h]; rfl

theorem own_any (v : Value) : v.ownBlock = none ∨ v.ownBlock ≠ (none : Option Nat) := by cases v.ownBlock <;> simp

theorem kw_len {l : List UInt8} (h : isKw l = true) : l.length ≤ 7 := by
  unfold isKw at h
  rw [List.contains_iff_mem] at h
  have : kwList.all (fun k => decide (k.length ≤ 7)) = true := by decide
  simpa using List.all_eq_true.1 this l h
theorem sym_len {l : List UInt8} (h : isSym l = true) : l.length ≤ 2 := by
  unfold isSym at h
  rw [List.contains_iff_mem] at h
  have : symList.all (fun k => decide (k.length ≤ 2)) = true := by decide
  simpa using List.all_eq_true.1 this l h
theorem nm_len {k : Int} {l : List UInt8} (h : isNm k l = true) : l.length ≤ 12 := by
  cases l with
  | nil => simp
  | cons c r =>
    simp only [isNm, Bool.and_eq_true, decide_eq_true_eq] at h
    simp only [List.length_cons]; omega
theorem tok_len {l : List UInt8} {k n : Int} {s : List UInt8} (h : tokS l = some (k, s, n)) (hk : k ≠ 3) : l.length ≤ 12 ∧ s = l := by
  unfold tokS at h
  split at h
  · simp only [Option.some.injEq, Prod.mk.injEq] at h; exact absurd h.1.symm hk
  · repeat' split at h
    all_goals first | (cases h; done) | skip
    all_goals simp only [Option.some.injEq, Prod.mk.injEq] at h
    · exact ⟨by have := kw_len ‹_›; omega, h.2.1.symm⟩
    · exact ⟨nm_len ‹_›, h.2.1.symm⟩
    · exact ⟨nm_len ‹_›, h.2.1.symm⟩
    · exact ⟨by have := sym_len ‹_›; omega, h.2.1.symm⟩
theorem text_len {t : Rt} (hok : t.ok) (h : t.valid = true) : t.text.length ≤ 30 := by
  unfold Rt.valid validS at h
  rw [decide_eq_true_eq] at h
  unfold Rt.text
  by_cases hk : t.k = 3
  · unfold textS; rw [if_pos hk]; exact itoa_len _ hok.1
  · have := (tok_len h hk).1; omega
theorem tot_bd {ts : List Rt} (hok : ∀ t ∈ ts, t.ok) (hv : ∀ t ∈ ts, t.valid = true) : tot ts ≤ 31 * ts.length := by
  have h : (ts.map fun t => t.text.length).sum ≤ 30 * ts.length := by
    induction ts with
    | nil => simp
    | cons t r ih =>
      have h1 := text_len (hok t (by simp)) (hv t (by simp))
      have h2 := ih (fun t ht => hok t (by simp [ht])) (fun t ht => hv t (by simp [ht]))
      simp only [List.map_cons, List.sum_cons, List.length_cons]
      omega
  unfold tot; omega

theorem join_len (ts : List Rt) : (Lib.join (ts.map (fun t => t.text)) [32]).length = tot ts := by
  have h : ∀ (l : List (List UInt8)), ([32].intercalate l : List UInt8).length = (l.map List.length).sum + (l.length - 1) := by
    intro l
    unfold List.intercalate
    induction l with
    | nil => rfl
    | cons x r ih =>
      cases r with
      | nil => simp
      | cons y r =>
        rw [List.intersperse_cons_cons, List.flatten_cons, List.flatten_cons, List.length_append, List.length_append, ih]
        simp only [List.map_cons, List.sum_cons, List.length_cons, List.length_nil]
        omega
  unfold Lib.join tot
  rw [h, List.map_map, List.length_map]
  rfl

set_option maxHeartbeats 400000 in
theorem spaced_any (v : Value) (base : Nat) (xs : List ByteArray) (w : World) (h : w.ownsRow base 9 1 v xs.length (xs.map Value.string)) (hx : xs.length ≤ 140737488355328) (hlen : (Lib.join (xs.map (·.data.toList)) [32]).length ≤ 140737488355328) :
    Calls Tryd.prog 42 #[v] w fun e w' => e = .returned (.string (strB (Lib.join (xs.map (·.data.toList)) [32]))) ∧ Below w.heap.size w w' := by
  have H : Hid (∀ w', w' = w → Calls Tryd.prog 60 #[v, .string ⟨#[32]⟩] w' fun e w'' => e = .returned (.string (strB (Lib.join (xs.map (·.data.toList)) [32]))) ∧ Below w.heap.size w w'') := by
    rintro w' rfl
    cases xs with
    | nil =>
      obtain ⟨a, c, rfl⟩ : ∃ a c, v = .slice a 0 c := by
        rcases h.2 with ⟨rfl, _⟩ | ⟨g, cap, cur, rfl, _⟩
        · exact ⟨_, _, rfl⟩
        · exact ⟨_, _, rfl⟩
      exact (Tryd.strings_Join_none a c ⟨#[32]⟩ w').mono fun e w2 h => ⟨by rw [h.1]; rfl, by rw [h.2]; exact Below.refl _ _⟩
    | cons x r =>
      rcases h.2 with ⟨_, h0⟩ | ⟨g, cap, cur, rfl, hb, hg, hn, hcap, _⟩
      · simp at h0
      · have hlt : g < w'.heap.size := (Array.getElem?_eq_some_iff.1 hg).1
        refine (Tryd.strings_Join g 0 cap (x :: r) ⟨#[32]⟩ w' (fun j y hj => ?_) hlt hx hn hlen).mono fun e w2 h => ⟨by rw [h.1]; rfl, h.2⟩
        have hjl : j < (x :: r).length := (List.getElem?_eq_some_iff.1 hj).1
        have hc := h.cellAt j (by simpa using hjl)
        rw [Nat.zero_add]
        rw [hc, List.getElem?_map, hj]
        rfl
  obtain ⟨a, n, c, rfl⟩ : ∃ a n c, v = .slice a n c := by
    rcases h.2 with ⟨rfl, _⟩ | ⟨g, cap, cur, rfl, _⟩
    · exact ⟨_, _, _, rfl⟩
    · exact ⟨_, _, _, rfl⟩
  clear h
  go_enter Tryd.func42, Tryd.ntmps42
  go_wp2_with (go_at_call 60; refine (H.out _ rfl).mono ?_; rintro e w2 ⟨rfl, hb⟩)
  go_ret
  exact ⟨rfl, hb⟩

set_option maxRecDepth 100000 in
set_option maxHeartbeats 1000000 in
theorem Join_any (A : Option Addr) (c : Nat) (ts : List Rt) (w : World) (hT : Toks w A ts) (hE : Env w) (hok : ∀ t ∈ ts, t.ok) (hsz : ts.length * 40 ≤ 140737488355328) :
    Calls Tryd.prog 18 #[.slice A ts.length c] w fun e w' => e = JoinRes (joinS ts) ∧ Below w.heap.size w w' := by
  obtain ⟨i0, hi, hz0, hz1, hz2⟩ := info_parts info9
  have HE := Lib.hid hE
  have HT := Lib.hid hT
  have HOK := Lib.hid hok
  have HBY := Lib.hid (show i0.bytes * ts.length ≤ 281474976710656 by rw [hz2]; omega)
  clear hE hT hok
  go_enter Tryd.func18, Tryd.ntmps18
  go_wp2_with (at_make; refine wpList_make_own _ rfl _ _ 39 rfl w.heap.size 9 i0 (.string ⟨#[]⟩) 1 Tryd.underlying39 hi hz0 hz1 _ _ _ ts.length rfl rfl (by omega) HBY.out (by unfold maxLen; omega) (Nat.le_refl _) ?_; intro w1 hown1 hg1; have HO1 := Lib.hid hown1; have HG1 := Lib.hid hg1; clear hown1 hg1)
  go_loopw [4, 5, 15] (fun v sz i wr => ∃ (k : Nat) (S : Nat), k ≤ ts.length ∧ i = .int .i64 (k : Int) ∧ sz = .int .i64 (S : Int) ∧ S ≤ 31 * k ∧ Hid (S = tot (ts.take k)) ∧ Hid (∀ t ∈ ts.take k, t.valid = true) ∧ Hid (wr.ownsRow w.heap.size 9 1 v k (strs (ts.take k))) ∧ Hid (Below w.heap.size w wr)) (fun _ _ i _ => ts.length - (intOf i).toNat)
  case atStart => exact ⟨0, 0, by omega, rfl, rfl, by omega, rfl, (fun t h => by simp at h), HO1, Below.grown (Below.refl _ w) HG1.out (Nat.le_refl _) (fun k e => by cases e)⟩
  case round =>
    clear HO1 HG1
    obtain ⟨k, S, hk, rfl, rfl, hS, HS, HV, HO, HB⟩ := hrel
    by_cases hlt : k < ts.length
    · obtain ⟨b, off, rfl, hbl, hcells⟩ := (HT.out.below HB.out) (by omega)
      obtain ⟨d0, d1, d2, d3⟩ := hcells k ts[k] (List.getElem?_eq_getElem hlt)
      clear hcells
      obtain ⟨tx, htx⟩ : ∃ tx, tx = ts[k].text := ⟨_, rfl⟩
      have HTX := Lib.hid htx.symm
      have htok := HOK.out ts[k] (List.getElem_mem hlt)
      have HTK := Lib.hid (take_snoc' ts k hlt)
      have HTL := Lib.hid (show (ts[k]).text.length = tx.length by rw [htx])
      have HL : Hid (((strB tx).size : Int) = (tx.length : Int)) := by show _ = _; rw [← len_data, data_strB]
      have htk : (ts.take k).length = k := by rw [List.length_take]; omega
      have HLK := Lib.hid htk
      have HBa := Lib.hid (HB.out.alloc HB.out.size (.cells #[.int .i64 ts[k].k, .string ts[k].s, .int .i64 ts[k].n, .int .i64 ts[k].p] 43))
      have HEa := Lib.hid ((HE.out.grown (grown_below HB.out none) (by simp) (by simp)).grown (World.grownBy_alloc wr (.cells #[.int .i64 ts[k].k, .string ts[k].s, .int .i64 ts[k].n, .int .i64 ts[k].p] 43) none) (by simp) (by simp))
      cases hval : (ts[k]).valid with
      | false =>
        have HX : Hid (∀ w, Env w → Calls Tryd.prog 41 #[.agg #[.int .i64 ts[k].k, .string ts[k].s, .int .i64 ts[k].n, .int .i64 ts[k].p]] w fun e w' => e = .returned (.tuple #[.string (strB tx), .bool false]) ∧ Below w.heap.size w w') := fun w h => (textOf_any _ _ _ _ w h htok.2 htok.1).mono fun e w' h => ⟨by rw [h.1, htx]; exact ret_sb hval, h.2⟩
        have HR := Lib.hid (show joinS ts = ([], 1) by
          unfold joinS; rw [if_neg]
          intro h
          rw [List.all_eq_true] at h
          have := h _ (List.getElem_mem hlt)
          rw [hval] at this; cases this)
        clear hval htx htok htk
        go_wp2_with (go_at_call 41; refine (HX.out _ HEa.out).mono ?_; rintro e w2 ⟨rfl, hb⟩; have HB2 := Lib.hid (below_call HBa.out hb); clear hb)
        go_ret2
        exact ⟨JoinRes_nil HR.out, HB2.out⟩
      | true =>
        have HX : Hid (∀ w, Env w → Calls Tryd.prog 41 #[.agg #[.int .i64 ts[k].k, .string ts[k].s, .int .i64 ts[k].n, .int .i64 ts[k].p]] w fun e w' => e = .returned (.tuple #[.string (strB tx), .bool true]) ∧ Below w.heap.size w w') := fun w h => (textOf_any _ _ _ _ w h htok.2 htok.1).mono fun e w' h => ⟨by rw [h.1, htx]; exact ret_sb hval, h.2⟩
        have htl : tx.length ≤ 30 := by rw [htx]; exact text_len htok hval
        have htl2 : (strB tx).size ≤ 30 := by have := HL.out; omega
        have HV2 : Hid (∀ t ∈ ts.take (k + 1), t.valid = true) := by
          intro t ht
          rw [HTK.out, List.mem_append, List.mem_singleton] at ht
          rcases ht with ht | rfl
          · exact HV.out t ht
          · exact hval
        clear hval htx htok htk
        by_cases hk0 : k = 0
        · have HK0 := Lib.hid hk0
          have hk1 : k ≤ 0 := by omega
          clear hk0
          go_wp2_with (first | (go_at_call 41; refine (HX.out _ HEa.out).mono ?_; rintro e w2 ⟨rfl, hb⟩; have HB2 := Lib.hid (below_call HBa.out hb); have HO2 := Lib.hid (HO.out.kept (grown_trans (World.grownBy_alloc wr _ none) (grown_below hb none)) (own_any _)); have HG2 := Lib.hid (grown_trans (World.grownBy_alloc wr (.cells #[.int .i64 ts[k].k, .string ts[k].s, .int .i64 ts[k].n, .int .i64 ts[k].p] 43) none) (grown_below hb none)); clear hb) | (at_builtin; refine wpList_append_own _ rfl _ _ 39 rfl w.heap.size 9 i0 (.string ⟨#[]⟩) 1 16 Tryd.underlying39 hi hz0 hz1 hz2 rfl (by decide) _ _ _ rfl (HO2.out.alloc _) ⟨w2.heap.size, 0, none⟩ 1 1 [.string (strB tx)] rfl rfl (cell_one_new _ _ _) (by simp [Value.oneCell']) (by unfold maxLen; omega) (by omega) (by have := HB2.out.size; simp; omega) ?_; intro v' w3 hown' hgrow _; have HO3 := Lib.hid hown'; have HB3 := Lib.hid ((HB2.out.alloc HB2.out.size _).grown hgrow (by have := HB2.out.size; simp; omega) (fun j e => by have := (HO2.out.lt _ e).1; omega)); clear hown' hgrow))
          go_roundw
          case rel => exact ⟨k + 1, S + tx.length, by omega, by go_num, (by first | (rw [HL.out]; go_num) | (rw [HL.out]; apply congrArg; omega)), by omega, (by show _ = _; rw [HTK.out, tot_snoc, ← HS.out, HTL.out, HLK.out]; first | (rw [if_pos (by omega)]; done) | (rw [if_pos (by omega)]; omega) | (rw [if_neg (by omega)]; omega)), HV2, (by show World.ownsRow _ _ _ _ _ _ _; rw [HTK.out, strs_snoc, HTX.out]; exact HO3.out), HB3⟩
          case measure => simp [intOf]; omega
        · have hk1 : 0 < k := by omega
          clear hk0
          go_wp2_with (first | (go_at_call 41; refine (HX.out _ HEa.out).mono ?_; rintro e w2 ⟨rfl, hb⟩; have HB2 := Lib.hid (below_call HBa.out hb); have HO2 := Lib.hid (HO.out.kept (grown_trans (World.grownBy_alloc wr _ none) (grown_below hb none)) (own_any _)); have HG2 := Lib.hid (grown_trans (World.grownBy_alloc wr (.cells #[.int .i64 ts[k].k, .string ts[k].s, .int .i64 ts[k].n, .int .i64 ts[k].p] 43) none) (grown_below hb none)); clear hb) | (at_builtin; refine wpList_append_own _ rfl _ _ 39 rfl w.heap.size 9 i0 (.string ⟨#[]⟩) 1 16 Tryd.underlying39 hi hz0 hz1 hz2 rfl (by decide) _ _ _ rfl (HO2.out.alloc _) ⟨w2.heap.size, 0, none⟩ 1 1 [.string (strB tx)] rfl rfl (cell_one_new _ _ _) (by simp [Value.oneCell']) (by unfold maxLen; omega) (by omega) (by have := HB2.out.size; simp; omega) ?_; intro v' w3 hown' hgrow _; have HO3 := Lib.hid hown'; have HB3 := Lib.hid ((HB2.out.alloc HB2.out.size _).grown hgrow (by have := HB2.out.size; simp; omega) (fun j e => by have := (HO2.out.lt _ e).1; omega)); clear hown' hgrow))
          go_roundw
          case rel => exact ⟨k + 1, S + 1 + tx.length, by omega, by go_num, (by first | (rw [HL.out]; go_num) | (rw [HL.out]; apply congrArg; omega)), by omega, (by show _ = _; rw [HTK.out, tot_snoc, ← HS.out, HTL.out, HLK.out]; first | (rw [if_pos (by omega)]; done) | (rw [if_pos (by omega)]; omega) | (rw [if_neg (by omega)]; omega)), HV2, (by show World.ownsRow _ _ _ _ _ _ _; rw [HTK.out, strs_snoc, HTX.out]; exact HO3.out), HB3⟩
          case measure => simp [intOf]; omega
    · obtain rfl : k = ts.length := by omega
      have hta : ts.take ts.length = ts := List.take_of_length_le (Nat.le_refl _)
      rw [hta] at HS HV HO
      have hall : (ts.all fun t => t.valid) = true := by rw [List.all_eq_true]; exact HV.out
      by_cases h3 : 30000 < S
      · have HR := Lib.hid (show joinS ts = ([], 3) by unfold joinS; rw [if_pos hall, if_pos (by rw [← HS.out]; exact h3)])
        clear hta hall
        go_wp2_with fail
        go_ret2
        exact ⟨JoinRes_nil HR.out, HB.out⟩
      · have HR := Lib.hid (show joinS ts = (Lib.join (ts.map (fun t => t.text)) [32], 0) by unfold joinS; rw [if_pos hall, if_neg (by rw [← HS.out]; exact h3)])
        have hmm : (ts.map (fun t => strB t.text)).map (fun x => x.data.toList) = ts.map (fun t => t.text) := by rw [List.map_map]; rfl
        have hsp := spaced_any u4 w.heap.size (ts.map (fun t => strB t.text)) wr (by rw [List.length_map, List.map_map]; exact HO.out) (by rw [List.length_map]; omega) (by rw [hmm, join_len, ← HS.out]; omega)
        rw [hmm] at hsp
        have HSP := Lib.hid hsp
        obtain ⟨a, n, c', rfl⟩ : ∃ a n c', u4 = .slice a n c' := by
          rcases HO.out.2 with ⟨rfl, _⟩ | ⟨g, cap, cur, rfl, _⟩
          · exact ⟨_, _, _, rfl⟩
          · exact ⟨_, _, _, rfl⟩
        clear hta hall hmm hsp
        go_wp2_with (go_at_call 42; refine (Calls.mono HSP.out ?_); rintro e w2 ⟨rfl, hb⟩; have HB2 := Lib.hid (below_call HB.out hb); clear hb)
        go_ret2
        exact ⟨JoinRes_mk HR.out, HB2.out⟩
end Go.Proofs.YtdnolbbkphgfiaaDoor
