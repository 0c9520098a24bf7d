/- Alike; Lex with the room of what it returns. -/
import Derived.Test.YtdnolbbkphgfiaaDoorLawCovers
import Derived.Test.YtdnolbbkphgfiaaDoorBack
namespace Go.Proofs.YtdnolbbkphgfiaaDoor
open Go.RowKit

set_option maxRecDepth 100000 in
set_option maxHeartbeats 1000000 in
theorem Alike_eq (A B : Option Addr) (c d n : Nat) (ts us : List Rt) (w : World) (hA : Toks w A ts) (hB : Toks w B us) (h1 : ts.length = n) (h2 : us.length = n) (hk : ts.map rkey = us.map rkey) (hlen : n ≤ 1000000) :
    Calls Tryd.prog 33 #[.slice A n c, .slice B n d] w fun e w' => e = .returned (.bool true) ∧ Below w.heap.size w w' := by
  have HA := Lib.hid hA
  have HB := Lib.hid hB
  have HK := Lib.hid hk
  have H1 := Lib.hid h1
  have H2 := Lib.hid h2
  clear hA hB hk h1 h2
  go_enter Tryd.func33, Tryd.ntmps33
  go_wp2_with fail
  go_loopw [5, 6] (fun v i wr => ∃ k : Nat, k ≤ n ∧ i = .int .i64 (k : Int) ∧ v = .bool true ∧ Hid (Below w.heap.size w wr)) (fun _ i _ => n - (intOf i).toNat)
  case atStart => exact ⟨0, by omega, rfl, rfl, Below.refl _ _⟩
  case round =>
    obtain ⟨k, hk, rfl, rfl, HW⟩ := hrel
    by_cases hlt : k < n
    · have l1 : k < ts.length := by have := H1.out; omega
      have l2 : k < us.length := by have := H2.out; omega
      obtain ⟨b, off, rfl, hbl, hcells⟩ := (HA.out.below HW.out) (by omega)
      obtain ⟨d0, d1, d2, d3⟩ := hcells k ts[k] (List.getElem?_eq_getElem l1)
      obtain ⟨b', off', rfl, hbl', hcells'⟩ := (HB.out.below HW.out) (by omega)
      obtain ⟨e0, e1, e2, e3⟩ := hcells' k us[k] (List.getElem?_eq_getElem l2)
      clear hcells hcells'
      have hky : rkey ts[k] = rkey us[k] := by
        have := congrArg (fun l => l[k]?) HK.out
        simp only [List.getElem?_map, List.getElem?_eq_getElem l1, List.getElem?_eq_getElem l2, Option.map_some, Option.some.injEq] at this
        exact this
      obtain ⟨t, ht⟩ : ∃ t, t = ts[k] := ⟨_, rfl⟩
      obtain ⟨u, hu⟩ : ∃ u, u = us[k] := ⟨_, rfl⟩
      rw [← ht] at d0 d1 d2 d3
      rw [← hu] at e0 e1 e2 e3
      rw [← ht, ← hu] at hky
      clear ht hu
      obtain ⟨tk, tst, tn, tp⟩ := t
      obtain ⟨uk, ust, un, up⟩ := u
      simp only [rkey, Prod.mk.injEq] at hky
      obtain ⟨rfl, hs, rfl⟩ := hky
      obtain rfl : tst = ust := Go.WideShapes.bytes_inj hs
      simp only at d0 d1 d2 d3 e0 e1 e2 e3
      clear hs l1 l2
      have i0 : (0 : Int) ≤ (k : Int) := by omega
      have i1 : (k : Int) < (n : Int) := by omega
      go_wp2_with fail
      go_quiet (fail)
      go_wp2_with fail
      go_roundw
      case rel => exact ⟨k + 1, by omega, by go_num, rfl, HW.out.trans ⟨rfl, rfl, rfl, Nat.le_refl _, fun _ _ => rfl⟩⟩
      case measure => simp [intOf]; omega
    · obtain rfl : k = n := by omega
      go_wp2_with fail
      go_ret
      exact ⟨rfl, HW.out⟩

theorem toks_own' {w : World} {base : Nat} {v : Value} {xs : List Tk} (h : w.ownsRow base 43 4 v xs.length (flat xs)) : ∃ A c, v = .slice A xs.length c ∧ xs.length ≤ c ∧ Toks w A (xs.map rt) := by
  obtain ⟨A, c, e, hT⟩ := toks_own h
  refine ⟨A, c, e, ?_, hT⟩
  rcases h.2 with ⟨rfl, h0⟩ | ⟨g, cap, cur, rfl, hb, hg, hn, hcap, _⟩
  · have hl := h.1
    injection e with _ e1 e2
    omega
  · injection e with _ e1 e2
    omega
theorem Lex_cap (s : ByteArray) (xs : List Tk) (a b : Int) (n : Nat) (w : World) (hY : Syms w) (hs : s.size ≤ maxLen) (h : lexS s.data.toList = (xs, a, b)) (hn : xs.length = n) :
    Calls Tryd.prog 14 #[.string s] w fun e w' => ∃ A c, e = .returned (.tuple #[.slice A n c, .int .i64 a, .int .i64 b]) ∧ n ≤ c ∧ Toks w' A (xs.map rt) ∧ Below w.heap.size w w' :=
  (Lex_any s w hY hs).mono fun e w' ⟨v, he, ho, hb⟩ => by
    rw [h] at he ho
    obtain ⟨A, c, rfl, hc, hT⟩ := toks_own' ho
    subst hn
    exact ⟨A, c, he, hc, hT, hb⟩
theorem rel_pos : ∀ (xs : List Tk) (p : Nat) (l : List UInt8) (fin : Nat), LexR l p xs fin → ∀ t ∈ xs, t.pos ≤ fin
  | [], _, _, _, _, t, ht => by simp at ht
  | x :: r, p, l, fin, h, t, ht => by
    rcases List.mem_cons.1 ht with rfl | ht
    · have := rel_ge _ _ _ _ h.2.2; omega
    · exact rel_pos r _ l fin h.2.2 t ht
theorem lexS_pos {l : List UInt8} {xs : List Tk} {a b : Int} (h : lexS l = (xs, a, b)) : ∀ t ∈ xs, t.pos ≤ 30000 := by
  by_cases hl : l.length ≤ 30000
  · obtain ⟨xs', fin, hr, hf, e⟩ := lexS_rel hl
    rw [h] at e
    split at e
    · injection e with e _; subst e; simp
    · injection e with e _; subst e
      intro t ht
      have := rel_pos _ _ _ _ hr t ht
      omega
  · rw [lexS_big (by omega)] at h
    injection h with e _; subst e; simp
theorem lexS_at0 {l : List UInt8} {xs : List Tk} {a : Int} (h : lexS l = (xs, a, 0)) : a = 0 := by
  unfold lexS at h
  split at h
  · injection h with _ h; injection h with h1 h2; cases h2
  · split at h
    · injection h with _ h; injection h with h1 h2; cases h2
    · injection h with _ h; injection h with h1 h2; exact h1.symm
end Go.Proofs.YtdnolbbkphgfiaaDoor
