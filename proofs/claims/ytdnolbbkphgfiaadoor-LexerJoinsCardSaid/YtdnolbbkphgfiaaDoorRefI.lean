/- The reference's Join. -/
import Derived.Test.YtdnolbbkphgfiaaDoorRefH
import Derived.Test.YtdnolbbkphgfiaaDoorJoin
namespace Go.Proofs.YtdnolbbkphgfiaaDoor
open Go.RowKit

def texts (ts : List Rt) : List (List UInt8) := ts.map fun t => t.text
theorem intersperse_snoc (sep x : List UInt8) : ∀ (l : List (List UInt8)), l ≠ [] → (List.intersperse sep (l ++ [x])).flatten = (List.intersperse sep l).flatten ++ sep ++ x
  | [], h => absurd rfl h
  | [a], _ => by simp
  | a :: b :: r, _ => by
    have ih := intersperse_snoc sep x (b :: r) (by simp)
    rw [List.cons_append, List.cons_append, List.intersperse_cons_cons, List.intersperse_cons_cons, List.flatten_cons, List.flatten_cons, List.flatten_cons, List.flatten_cons, ← List.cons_append, ih]
    simp
theorem join_snoc (l : List (List UInt8)) (sep x : List UInt8) : Lib.join (l ++ [x]) sep = Lib.join l sep ++ (if l = [] then [] else sep) ++ x := by
  unfold Lib.join List.intercalate
  by_cases h : l = []
  · subst h; simp
  · rw [if_neg h, intersperse_snoc sep x l h]

theorem strB_app (a b : List UInt8) : strB (a ++ b) = strB a ++ strB b := by
  apply Go.WideShapes.bytes_inj
  rw [cat_data, data_strB, data_strB, data_strB]
theorem strB_size (a : List UInt8) : (strB a).size = a.length := by rw [← len_data]; rfl

set_option maxRecDepth 100000 in
set_option maxHeartbeats 1000000 in
theorem rJoin_any (A : Option Addr) (c : Nat) (ts : List Rt) (w : World) (hT : Toks w A ts) (hok : ∀ t ∈ ts, t.ok) (hsz : ts.length * 40 ≤ 140737488355328) :
    Calls Tryd.prog 19 #[.slice A ts.length c] w fun e w' => e = JoinRes (joinS ts) ∧ Below w.heap.size w w' := by
  have HT := Lib.hid hT
  have HOK := Lib.hid hok
  clear hT hok
  go_enter Tryd.func19, Tryd.ntmps19
  go_wp2_with fail
  go_loopw [4, 5] (fun sz i wr => ∃ (k : Nat) (S : Nat), k ≤ ts.length ∧ i = .int .i64 (k : Int) ∧ sz = .int .i64 (S : Int) ∧ S ≤ 31 * k ∧ Hid (S = tot (ts.take k)) ∧ Hid (∀ t ∈ ts.take k, t.valid = true) ∧ Hid (Below w.heap.size w wr)) (fun _ i _ => ts.length - (intOf i).toNat)
  case atStart => exact ⟨0, 0, by omega, rfl, rfl, by omega, rfl, (fun t h => by simp at h), Below.refl _ _⟩
  case round =>
    obtain ⟨k, S, hk, rfl, rfl, hS, HS, HV, HB⟩ := hrel
    by_cases hlt : k < ts.length
    · obtain ⟨b, off, rfl, hbl, hcells⟩ := (HT.out.below HB.out) (by omega)
      obtain ⟨d0, d1, d2, d3⟩ := hcells k ts[k] (List.getElem?_eq_getElem hlt)
      clear hcells
      have htok := HOK.out ts[k] (List.getElem_mem hlt)
      have HTK := Lib.hid (take_snoc' ts k hlt)
      have HMEM := Lib.hid (List.getElem_mem hlt)
      have htk : (ts.take k).length = k := by rw [List.length_take]; omega
      have HLK := Lib.hid htk
      obtain ⟨t, ht⟩ : ∃ t, t = ts[k] := ⟨_, rfl⟩
      rw [← ht] at d0 d1 d2 d3 htok HTK HMEM
      have H43 : Hid (∀ w, Calls Tryd.prog 43 #[.agg #[.int .i64 t.k, .string t.s, .int .i64 t.n, .int .i64 t.p]] w fun e w' => e = .returned (.bool t.valid) ∧ Below w.heap.size w w') := fun w => rValid_any _ _ _ _ w htok.2 htok.1
      obtain ⟨tx, htx⟩ : ∃ tx, tx = strB t.text := ⟨_, rfl⟩
      have H35 : Hid (∀ w, Calls Tryd.prog 35 #[.agg #[.int .i64 t.k, .string t.s, .int .i64 t.n, .int .i64 t.p]] w fun e w' => e = .returned (.string tx) ∧ Below w.heap.size w w') := fun w => (rText_any _ _ _ _ w htok.1).mono fun e w' h => ⟨by rw [h.1, htx]; rfl, h.2⟩
      have i0 : (0 : Int) ≤ (k : Int) := by omega
      have i1 : (k : Int) < (ts.length : Int) := by omega
      cases hval : t.valid with
      | false =>
        have HR := Lib.hid (show joinS ts = ([], 1) by
          unfold joinS; rw [if_neg]
          intro h
          rw [List.all_eq_true] at h
          have := h _ HMEM.out
          rw [hval] at this; cases this)
        rw [hval] at H43
        clear hval htx htok htk ht
        go_wp2_with fail
        refine (H43.out _).mono ?_; rintro e w2 ⟨rfl, hb⟩
        have HB2 := Lib.hid (below_call HB.out hb)
        clear hb
        go_wp2_with fail
        go_ret2
        exact ⟨JoinRes_nil HR.out, HB2.out⟩
      | true =>
        have htl : tx.size ≤ 30 := by rw [htx, strB_size]; exact text_len htok hval
        have HTL := Lib.hid (show tx.size = t.text.length by rw [htx, strB_size])
        have HV2 : Hid (∀ t ∈ ts.take (k + 1), t.valid = true) := by
          intro u hu
          rw [HTK.out, List.mem_append, List.mem_singleton] at hu
          rcases hu with hu | rfl
          · exact HV.out u hu
          · exact hval
        have HS2 : Hid (tot (ts.take (k + 1)) = S + (if 0 < k then 1 else 0) + tx.size) := by
          show _ = _
          rw [HTK.out, tot_snoc, ← HS.out, HLK.out, HTL.out]
        rw [hval] at H43
        clear hval htx htok htk ht HTL HV HS
        by_cases hk0 : 0 < k
        · have HS3 : Hid (S + tx.size + 1 = tot (ts.take (k + 1))) := by show _ = _; rw [HS2.out, if_pos hk0]; omega
          clear HS2
          go_wp2_with fail
          refine (H43.out _).mono ?_; rintro e w2 ⟨rfl, hb⟩
          have HB2 := Lib.hid (below_call HB.out hb)
          obtain ⟨cc, _⟩ := bcell hb
          rw [← cc b _ hbl] at d0 d1 d2 d3
          clear hb cc HB
          go_wp2_with fail
          refine (H35.out _).mono ?_; rintro e w3 ⟨rfl, hb⟩
          have HB3 := Lib.hid (below_call HB2.out hb)
          clear hb HB2
          go_wp2_with fail
          go_roundw
          case rel => exact ⟨k + 1, S + tx.size + 1, by omega, by go_num, by go_num, by omega, HS3, HV2, HB3⟩
          case measure => simp [intOf]; omega
        · have HS3 : Hid (S + tx.size = tot (ts.take (k + 1))) := by show _ = _; rw [HS2.out, if_neg hk0]; omega
          have hk1 : k ≤ 0 := by omega
          clear HS2 hk0
          go_wp2_with fail
          refine (H43.out _).mono ?_; rintro e w2 ⟨rfl, hb⟩
          have HB2 := Lib.hid (below_call HB.out hb)
          obtain ⟨cc, _⟩ := bcell hb
          rw [← cc b _ hbl] at d0 d1 d2 d3
          clear hb cc HB
          go_wp2_with fail
          refine (H35.out _).mono ?_; rintro e w3 ⟨rfl, hb⟩
          have HB3 := Lib.hid (below_call HB2.out hb)
          clear hb HB2
          go_wp2_with fail
          go_roundw
          case rel => exact ⟨k + 1, S + tx.size, by omega, by go_num, by go_num, by omega, HS3, HV2, HB3⟩
          case measure => simp [intOf]; omega
    · obtain rfl : k = ts.length := by omega
      have hta : ts.take ts.length = ts := List.take_of_length_le (Nat.le_refl _)
      rw [hta] at HS HV
      have hall : (ts.all fun t => t.valid) = true := by rw [List.all_eq_true]; exact HV.out
      by_cases h3 : 30000 < S
      · have HR := Lib.hid (show joinS ts = ([], 3) by unfold joinS; rw [if_pos hall, if_pos (by rw [← HS.out]; exact h3)])
        clear hta hall
        go_wp2_with fail
        go_ret2
        exact ⟨JoinRes_nil HR.out, HB.out⟩
      · have HR := Lib.hid (show joinS ts = (Lib.join (texts ts) [32], 0) by unfold joinS texts; rw [if_pos hall, if_neg (by rw [← HS.out]; exact h3)])
        clear hta hall
        go_wp2_with fail
        go_loopw [6, 7] (fun out i wr => ∃ (k : Nat) (o : ByteArray), k ≤ ts.length ∧ i = .int .i64 (k : Int) ∧ out = .string o ∧ o.size ≤ 31 * k ∧ Hid (o = strB (Lib.join (texts (ts.take k)) [32])) ∧ Hid (Below w.heap.size w wr)) (fun _ i _ => ts.length - (intOf i).toNat)
        case atStart => exact ⟨0, ⟨#[]⟩, by omega, rfl, rfl, by decide, rfl, HB⟩
        case round =>
          clear HB
          obtain ⟨k, o, hk, rfl, rfl, hos, HO, HB⟩ := hrel
          by_cases hlt : k < ts.length
          · obtain ⟨b, off, rfl, hbl, hcells⟩ := (HT.out.below HB.out) (by omega)
            obtain ⟨d0, d1, d2, d3⟩ := hcells k ts[k] (List.getElem?_eq_getElem hlt)
            clear hcells
            have htok := HOK.out ts[k] (List.getElem_mem hlt)
            have HTK := Lib.hid (take_snoc' ts k hlt)
            have HMEM := Lib.hid (List.getElem_mem hlt)
            obtain ⟨t, ht⟩ : ∃ t, t = ts[k] := ⟨_, rfl⟩
            rw [← ht] at d0 d1 d2 d3 htok HTK HMEM
            obtain ⟨tx, htx⟩ : ∃ tx, tx = strB t.text := ⟨_, rfl⟩
            have H35 : Hid (∀ w, Calls Tryd.prog 35 #[.agg #[.int .i64 t.k, .string t.s, .int .i64 t.n, .int .i64 t.p]] w fun e w' => e = .returned (.string tx) ∧ Below w.heap.size w w') := fun w => (rText_any _ _ _ _ w htok.1).mono fun e w' h => ⟨by rw [h.1, htx]; rfl, h.2⟩
            have htl : tx.size ≤ 30 := by rw [htx, strB_size]; exact text_len htok (HV.out t HMEM.out)
            have i0 : (0 : Int) ≤ (k : Int) := by omega
            have i1 : (k : Int) < (ts.length : Int) := by omega
            have HJ : Hid (strB (Lib.join (texts (ts.take (k + 1))) [32]) = o ++ (if k = 0 then ⟨#[]⟩ else ⟨#[32]⟩) ++ tx) := by
              show _ = _
              have he : texts (ts.take (k + 1)) = texts (ts.take k) ++ [t.text] := by rw [HTK.out]; simp [texts]
              rw [he, join_snoc, strB_app, strB_app, ← HO.out, ← htx]
              congr 2
              by_cases h0 : k = 0
              · subst h0; rw [if_pos rfl, if_pos (by simp [texts])]; rfl
              · rw [if_neg h0, if_neg (by
                  intro e
                  have h1 : (texts (ts.take k)).length = 0 := by rw [e]; rfl
                  unfold texts at h1
                  rw [List.length_map, List.length_take] at h1
                  omega)]
                rfl
            clear htx htok ht HO
            by_cases hk0 : k = 0
            · have HJ2 := Lib.hid (show o ++ tx = strB (Lib.join (texts (ts.take (k + 1))) [32]) by
                rw [HJ.out, if_pos hk0]; apply Go.WideShapes.bytes_inj; rw [cat_data, cat_data, cat_data]; simp)
              have hk1 : k ≤ 0 := by omega
              have hz : (o ++ tx).size ≤ 31 * (k + 1) := by rw [ByteArray.size_append]; omega
              clear hk0 HJ
              go_wp2_with fail
              refine (H35.out _).mono ?_; rintro e w3 ⟨rfl, hb⟩
              have HB3 := Lib.hid (below_call HB.out hb)
              clear hb HB
              go_wp2_with fail
              go_roundw
              case rel => exact ⟨k + 1, o ++ tx, by omega, by go_num, rfl, hz, HJ2, HB3⟩
              case measure => simp [intOf]; omega
            · have HJ2 := Lib.hid (show o ++ ⟨#[32]⟩ ++ tx = strB (Lib.join (texts (ts.take (k + 1))) [32]) by rw [HJ.out, if_neg hk0])
              have hk1 : 0 < k := by omega
              have h1s : (⟨#[32]⟩ : ByteArray).size = 1 := rfl
              have hz : (o ++ ⟨#[32]⟩ ++ tx).size ≤ 31 * (k + 1) := by rw [ByteArray.size_append, ByteArray.size_append, h1s]; omega
              have hz1 : (o ++ ⟨#[32]⟩).size ≤ 31 * k + 1 := by rw [ByteArray.size_append, h1s]; omega
              clear hk0 HJ
              go_wp2_with fail
              refine (H35.out _).mono ?_; rintro e w3 ⟨rfl, hb⟩
              have HB3 := Lib.hid (below_call HB.out hb)
              clear hb HB
              go_wp2_with fail
              go_roundw
              case rel => exact ⟨k + 1, o ++ ⟨#[32]⟩ ++ tx, by omega, by go_num, rfl, hz, HJ2, HB3⟩
              case measure => simp [intOf]; omega
          · obtain rfl : k = ts.length := by omega
            have HF := Lib.hid (show joinS ts = (o.data.toList, 0) by
              rw [HR.out, HO.out, List.take_of_length_le (Nat.le_refl _), data_strB])
            clear HO HR
            go_wp2_with fail
            go_ret2
            exact ⟨JoinRes_mk HF.out, HB.out⟩
end Go.Proofs.YtdnolbbkphgfiaaDoor
