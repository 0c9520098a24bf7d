/- Texts put together by program: PgM RLev RTxA RTxB SmB RTxC SmC PgN LawWh. -/
import Derived.Test.YtbmicnajedeenaaGreatDoorMgJ
import Derived.Test.YtbmicnajedeenaaGreatDoorMgK
import Derived.Test.YtbmicnajedeenaaGreatDoorMgG
import Derived.BigQuiet
import Derived.Deep.QuietTactic
import Derived.Test.YtbmicnajedeenaaGreatDoorMgF
/- Programs that are not too large; their nested Let. -/
namespace Go.Proofs.YtbmicnajedeenaaGreatDoor
open Go.RowKit

theorem mem_of_nodesM {l : List Ex} {d : Int} {q : Int × Ex} (h : q ∈ nodesL d l) : ∃ x ∈ l, q ∈ nodesE d x := by
  induction l with
  | nil => simp [nodesL] at h
  | cons y r ih =>
    simp only [nodesL, List.mem_append] at h
    rcases h with h | h
    · exact ⟨y, by simp, h⟩
    · obtain ⟨x, hx, hq⟩ := ih h
      exact ⟨x, by simp [hx], hq⟩
theorem SmE.mk {e : Ex} (h : e.ns.length ≤ 1000 ∧ e.l.length ≤ 1000 ∧ e.bs.length ≤ 1000 ∧ ∀ o ∈ e.ops, o.2.length ≤ 1000) (hp : ∀ x ∈ e.parts, SmE x) : SmE e := by
  cases e with
  | mk k n s t ns l ops bs =>
    intro q hq
    simp only [nodesE, List.mem_cons, List.mem_append] at hq
    have up : ∀ x, SmE x → ∀ q ∈ nodesE (1 + 1) x, q.2.ns.length ≤ 1000 ∧ q.2.l.length ≤ 1000 ∧ q.2.bs.length ≤ 1000 ∧ ∀ o ∈ q.2.ops, o.2.length ≤ 1000 := fun x hx => nodesE_snd (fun e => e.ns.length ≤ 1000 ∧ e.l.length ≤ 1000 ∧ e.bs.length ≤ 1000 ∧ ∀ o ∈ e.ops, o.2.length ≤ 1000) x 1 (1 + 1) hx
    rcases hq with rfl | hq | hq
    · exact h
    · obtain ⟨x, hx, hq⟩ := mem_of_nodesM hq
      exact up x (hp x (List.mem_append_left _ hx)) q hq
    · obtain ⟨x, hx, hq⟩ := mem_of_nodesM hq
      exact up x (hp x (List.mem_append_right _ hx)) q hq
theorem longP_len2 {ns : List (List UInt8)} (h : ¬ longP ns = true) : ns.length ≤ 50 := by
  unfold longP at h
  simp at h
  omega
mutual
theorem leftP_sm : ∀ (e : Ex) (nodes d : Int), evn e → 0 ≤ leftP e nodes d → SmE e
  | .mk k n s t ns l ops bs, nodes, d, hv, h => by
    obtain ⟨v1, v2, v3⟩ := hv.parts
    rw [leftP] at h
    split at h
    · omega
    · rename_i hc
      have c0 : ¬ longP ns = true := fun h => hc (.inr (.inr (.inr (.inl h))))
      have c2 : ¬ 50 < l.length := fun h => hc (.inr (.inr (.inr (.inr (.inl h)))))
      have c3 : ¬ 50 < bs.length := fun h => hc (.inr (.inr (.inr (.inr (.inr h)))))
      have h1 : 0 ≤ leftL l (nodes - 1) (d - 1) := by
        by_cases h0 : leftL l (nodes - 1) (d - 1) < 0
        · rw [leftA_neg _ _ _ _ h0] at h; omega
        · omega
      have g1 := leftL_sm l (nodes - 1) (d - 1) v2 h1
      have g2 := leftA_sm ops bs (leftL l (nodes - 1) (d - 1)) (d - 1) v1 v3 h
      have c4 := longP_len2 c0
      refine SmE.mk ⟨by show ns.length ≤ 1000; omega, by show l.length ≤ 1000; omega, by show bs.length ≤ 1000; omega, fun o ho => ?_⟩ fun x hx => ?_
      · have := g2.1 o ho; omega
      · rcases List.mem_append.1 (show x ∈ l ++ bs from hx) with hx | hx
        · exact g1 x hx
        · exact g2.2 x hx
theorem leftL_sm : ∀ (l : List Ex) (nodes d : Int), (∀ x ∈ l, evn x) → 0 ≤ leftL l nodes d → ∀ x ∈ l, SmE x
  | [], nodes, d, _, _ => fun x hx => by simp at hx
  | e :: r, nodes, d, hv, h => by
    rw [leftL] at h
    split at h
    · omega
    · have h1 : 0 ≤ leftP e nodes d := by
        by_cases h0 : leftP e nodes d < 0
        · rw [leftL_neg _ _ _ h0] at h; omega
        · omega
      have g1 := leftP_sm e nodes d (hv e (by simp)) h1
      have g2 := leftL_sm r _ d (fun x hx => hv x (by simp [hx])) h
      intro x hx
      rcases List.mem_cons.1 hx with rfl | hx
      · exact g1
      · exact g2 x hx
theorem leftA_sm : ∀ (ops : List (Txt × List Txt)) (l : List Ex) (nodes d : Int), ops.length = l.length → (∀ x ∈ l, evn x) → 0 ≤ leftA ops l nodes d → (∀ o ∈ ops, o.2.length ≤ 50) ∧ ∀ x ∈ l, SmE x
  | ops, [], nodes, d, hl, _, _ => by
    have : ops = [] := List.length_eq_zero_iff.1 (by rw [hl]; rfl)
    subst this
    exact ⟨fun o ho => by simp at ho, fun x hx => by simp at hx⟩
  | [], e :: r, nodes, d, hl, _, _ => by simp at hl
  | o :: q, e :: r, nodes, d, hl, hv, h => by
    rw [leftA] at h
    split at h
    · omega
    · split at h
      · omega
      · rename_i hc
        have c0 : ¬ longP o.2 = true := fun h => hc (.inr h)
        have c4 := longP_len2 c0
        have h1 : 0 ≤ leftP e nodes d := by
          by_cases h0 : leftP e nodes d < 0
          · rw [leftA_neg _ _ _ _ h0] at h; omega
          · omega
        have g1 := leftP_sm e nodes d (hv e (by simp)) h1
        have g2 := leftA_sm q r _ d (by simpa using hl) (fun x hx => hv x (by simp [hx])) h
        refine ⟨fun o' ho => ?_, fun x hx => ?_⟩
        · rcases List.mem_cons.1 ho with rfl | ho
          · exact c4
          · exact g2.1 o' ho
        · rcases List.mem_cons.1 hx with rfl | hx
          · exact g1
          · exact g2.2 x hx
end
theorem great_sm {e : Ex} (hv : evn e) (h : great e = false) : SmE e := by
  unfold great at h
  exact leftP_sm e 4000 250 hv (by simpa using h)
theorem SmE_nest : ∀ (L : List Df) (m : Ex), (∀ d ∈ L, SmE d.2) → SmE m → SmE (nestP L m)
  | [], m, _, h => h
  | d :: r, m, hd, h => SmE.mk ⟨by show [d.1].length ≤ 1000; simp, by show [d.2, nestP r m].length ≤ 1000; simp, by show ([] : List Ex).length ≤ 1000; simp, fun o ho => by simp [Ex.ops, nestP] at ho⟩ fun x hx => by
    have hx' : x ∈ [d.2, nestP r m] ++ ([] : List Ex) := hx
    simp only [List.append_nil, List.mem_cons, List.not_mem_nil, or_false] at hx'
    rcases hx' with rfl | rfl
    · exact hd d (by simp)
    · exact SmE_nest r m (fun y hy => hd y (by simp [hy])) h
/-- what a program that is not too large gives -/
structure PgOk (p : Pg) : Prop where
  h : PgH p
  ld : p.dfs.length ≤ 80
  hd : ∀ d ∈ p.dfs, hE d.2 ≤ 250 ∧ d.1.length ≤ 100
  hm : hE p.m ≤ 250
  sm : SmE (nestP p.dfs p.m)
theorem pg_ok {w : World} {p : Pg} {cs : List Value} (hp : RepG (fun _ => True) w p cs) (hg : greatPg p = false) : PgOk p := by
  obtain ⟨A, c, A', c', B, d, c7, e, _, _, _, hr, hm⟩ := hp
  unfold greatPg at hg
  simp only [Bool.or_eq_false_iff, decide_eq_false_iff_not] at hg
  obtain ⟨⟨⟨⟨⟨⟨g1, g2⟩, g3⟩, g4⟩, g5⟩, g6⟩, g7⟩ := hg
  have em := RepE.evn p.m ⟨_, hm⟩
  have ed : ∀ x ∈ p.dfs, evn x.2 := fun x hx => by
    obtain ⟨b, off, _, _, _, hc⟩ := hr (List.ne_nil_of_mem hx)
    obtain ⟨j, hj, rfl⟩ := List.getElem_of_mem hx
    obtain ⟨cs, _, _, c7, _, _, he⟩ := hc j _ (List.getElem?_eq_getElem hj)
    exact RepE.evn _ ⟨_, he⟩
  have gd : ∀ x ∈ p.dfs, ¬ 100 < x.1.length ∧ great x.2 = false := fun x hx => by
    have := List.any_eq_false.1 g7 x hx
    unfold gDf at this
    simpa using this
  have hd : ∀ x ∈ p.dfs, hE x.2 ≤ 250 ∧ x.1.length ≤ 100 := fun x hx => ⟨(great_hE (ed x hx) (gd x hx).2).1, by have := (gd x hx).1; omega⟩
  have hmh := (great_hE em g4).1
  refine ⟨⟨fun x hx y hy z hz => ?_, fun x hx y hy => ?_, ?_⟩, by omega, hd, hmh, SmE_nest _ _ (fun x hx => great_sm (ed x hx) (gd x hx).2) (great_sm em g4)⟩
  · have h1 := List.any_eq_false.1 g5 x hx
    unfold gDt at h1
    simp only [Bool.or_eq_true, not_or, Bool.not_eq_true] at h1
    have h2 := List.any_eq_false.1 h1.2 y hy
    unfold gCn at h2
    simp only [Bool.or_eq_true, not_or, Bool.not_eq_true] at h2
    have h3 := List.any_eq_false.1 h2.2 z hz
    have := greatT_hT (by simpa using h3)
    omega
  · have h1 := List.any_eq_false.1 g6 x hx
    unfold gEf at h1
    simp only [Bool.or_eq_true, not_or, Bool.not_eq_true] at h1
    have h2 := List.any_eq_false.1 h1.2 y hy
    unfold gOp at h2
    simp only [Bool.or_eq_true, not_or, Bool.not_eq_true] at h2
    have a1 := greatT_hT h2.1.2
    have a2 := greatT_hT h2.2
    omega
  · have := hE_nest 250 p.dfs p.m (fun x hx => (hd x hx).1) hmh
    omega
/-- what Whole ends with -/
def WholeTo (w : World) (p : Pg) (r : Ending) (w' : World) : Prop :=
  Below w.heap.size w w' ∧ ∃ (k n : Int) (s t : ByteArray) (A0 : Option Addr) (n0 c0 : Nat) (A1 : Option Addr) (n1 c1 : Nat) (A2 : Option Addr) (n2 c2 : Nat), r = .returned (.tuple #[.agg #[.int .i64 k, .int .i64 n, .string s, .string t, .slice A0 n0 c0, .slice A1 n1 c1, .slice A2 n2 c2], .int .i64 (ckPg p)]) ∧
    RepE (fun _ => True) w' (if ckPg p = 0 then nestP p.dfs p.m else .mk 0 0 [] [] [] [] [] []) [.int .i64 k, .int .i64 n, .string s, .string t, .slice A0 n0 c0, .slice A1 n1 c1, .slice A2 n2 c2]
theorem rep_zero (P : Nat → Prop) (w : World) : RepE P w (.mk 0 0 [] [] [] [] [] []) [.int .i64 0, .int .i64 0, .string ⟨#[]⟩, .string ⟨#[]⟩, .slice none 0 0, .slice none 0 0, .slice none 0 0] :=
  ⟨none, 0, none, 0, none, 0, rfl, ⟨by unfold okN; omega, by unfold okN; omega, by unfold okS maxLen; simp, by unfold okS maxLen; simp, fun x hx => by simp at hx, by unfold maxLen; simp, by unfold maxLen; simp, by unfold maxLen; simp⟩, fun h => absurd rfl h, fun h => absurd rfl h, fun h => absurd rfl h, rfl⟩
theorem res_whole {tmps : Array Value} {w : World} {g : Nat} {a : Int} {v0 v1 v2 v3 v4 v5 v6 : Value} (h2 : tmps.getD 2 undef = .pointer (some ⟨g, 0, none⟩)) (h3 : tmps.getD 3 undef = .int .i64 a) (h : EB w g v0 v1 v2 v3 v4 v5 v6) :
    (results Tryz.f6 tmps).run Tryz.prog w = .ok (.tuple #[.agg #[v0, v1, v2, v3, v4, v5, v6], .int .i64 a]) w := by
  have c0 := h.c0
  have c1 := h.c1
  have c2 := h.c2
  have c3 := h.c3
  have c4 := h.c4
  have c5 := h.c5
  have c6 := h.c6
  have h2' : tmps[2]?.getD undef = .pointer (some ⟨g, 0, none⟩) := by simpa using h2
  have h3' : tmps[3]?.getD undef = .int .i64 a := by simpa using h3
  simp [results, Tryz.results6, go_sem, h2', h3', c0, c1, c2, c3, c4, c5, c6]
set_option maxRecDepth 100000 in
set_option maxHeartbeats 8000000 in
theorem Whole_any (p : Pg) (hO : PgOk p) (A : Option Addr) (a ca : Nat) (B : Option Addr) (b cb : Nat) (C : Option Addr) (c cc : Nat) (k n : Int) (s t : ByteArray) (A0 : Option Addr) (n0 m0 : Nat) (A1 : Option Addr) (n1 m1 : Nat) (A2 : Option Addr) (n2 m2 : Nat) (w : World) (hp : RepG (fun _ => True) w p [.slice A a ca, .slice B b cb, .slice C c cc, .int .i64 k, .int .i64 n, .string s, .string t, .slice A0 n0 m0, .slice A1 n1 m1, .slice A2 n2 m2]) (hu : Uses w) (hut : UsesT w) :
    Calls Tryz.prog 6 #[.agg #[.slice A a ca, .slice B b cb, .slice C c cc, .int .i64 k, .int .i64 n, .string s, .string t, .slice A0 n0 m0, .slice A1 n1 m1, .slice A2 n2 m2]] w (WholeTo w p) := by
  have HC := Lib.hid (fun w' (hb : Below w.heap.size w w') => CheckProgram_any p hO.h A a ca B b cb C c cc k n s t A0 n0 m0 A1 n1 m1 A2 n2 m2 w' (hp.keepC (KC.of_same hb)) (hu.below hb) (hut.below hb))
  have HN := Lib.hid (fun w' (hb : Below w.heap.size w w') => nest_any p A a ca B b cb C c cc k n s t A0 n0 m0 A1 n1 m1 A2 n2 m2 w' (hp.keepC (KC.of_same hb)))
  have HK := Lib.hid (clone_any _ hO.sm)
  obtain ⟨V, hV⟩ : ∃ V, V = ckPg p := ⟨_, rfl⟩
  have HV := Lib.hid hV
  rw [← hV] at HC
  obtain ⟨W1, hW1⟩ : ∃ W1, w.alloc (.cells #[.slice A a ca, .slice B b cb, .slice C c cc, .int .i64 k, .int .i64 n, .string s, .string t, .slice A0 n0 m0, .slice A1 n1 m1, .slice A2 n2 m2] 32) = W1 := ⟨_, rfl⟩
  have HB1 : Hid (Below w.heap.size w W1) := Lib.hid (by rw [← hW1]; exact (Below.refl _ _).alloc (Nat.le_refl _) _)
  have hx : W1.heap[w.heap.size]? = some (.cells #[.slice A a ca, .slice B b cb, .slice C c cc, .int .i64 k, .int .i64 n, .string s, .string t, .slice A0 n0 m0, .slice A1 n1 m1, .slice A2 n2 m2] 32 (0, 0)) := by rw [← hW1]; exact heap_alloc_new w _
  have hxl : w.heap.size < W1.heap.size := (Array.getElem?_eq_some_iff.1 hx).1
  have HX : Hid (∀ wr, Below W1.heap.size W1 wr → wr.heap[w.heap.size]? = some (.cells #[.slice A a ca, .slice B b cb, .slice C c cc, .int .i64 k, .int .i64 n, .string s, .string t, .slice A0 n0 m0, .slice A1 n1 m1, .slice A2 n2 m2] 32 (0, 0))) := Lib.hid (fun wr hb => (hb.block _ hxl).trans hx)
  have HW : Hid (∀ wr, Below W1.heap.size W1 wr → Below w.heap.size w wr) := Lib.hid (fun wr hb => HB1.out.trans (hb.mono HB1.out.size))
  have x0 := cell_of_row W1 w.heap.size 0 _ _ (0, 0) hx
  have x1 := cell_of_row W1 w.heap.size 1 _ _ (0, 0) hx
  have x2 := cell_of_row W1 w.heap.size 2 _ _ (0, 0) hx
  have x3 := cell_of_row W1 w.heap.size 3 _ _ (0, 0) hx
  have x4 := cell_of_row W1 w.heap.size 4 _ _ (0, 0) hx
  have x5 := cell_of_row W1 w.heap.size 5 _ _ (0, 0) hx
  have x6 := cell_of_row W1 w.heap.size 6 _ _ (0, 0) hx
  have x7 := cell_of_row W1 w.heap.size 7 _ _ (0, 0) hx
  have x8 := cell_of_row W1 w.heap.size 8 _ _ (0, 0) hx
  have x9 := cell_of_row W1 w.heap.size 9 _ _ (0, 0) hx
  simp only [List.getElem?_toArray, List.getElem?_cons_zero, List.getElem?_cons_succ] at x0 x1 x2 x3 x4 x5 x6 x7 x8 x9
  clear hx hV hp hu hut hO
  go_enter Tryz.func6, Tryz.ntmps6
  go_wp2_with fail
  obtain ⟨W2, hW2⟩ : ∃ W2, W1.alloc (.cells #[.int .i64 0, .int .i64 0, .string ⟨#[]⟩, .string ⟨#[]⟩, .slice none 0 0, .slice none 0 0, .slice none 0 0] 30) = W2 := ⟨_, rfl⟩
  have hg2 : Below W1.heap.size W1 W2 := by rw [← hW2]; exact (Below.refl _ _).alloc (Nat.le_refl _) _
  have HB2 := Lib.hid hg2
  have HQ2 : Hid (EB W2 W1.heap.size (.int .i64 0) (.int .i64 0) (.string ⟨#[]⟩) (.string ⟨#[]⟩) (.slice none 0 0) (.slice none 0 0) (.slice none 0 0)) := Lib.hid (by rw [← hW2]; exact EB.new _ _ _ _ _ _ _ _)
  rw [hW2]
  clear hW2 hg2 hW1 x0 x1 x2 x3 x4 x5 x6 x7 x8 x9
  refine (HC.out _ (HW.out _ HB2.out)).mono ?_
  rintro e w3 ⟨rfl, hb⟩
  have HB3 := Lib.hid (HB2.out.trans (hb.mono HB2.out.size))
  have HQ3 := Lib.hid (HQ2.out.kept (grown_below hb none) (by simp))
  clear hb
  by_cases hv : V = 0
  · subst hv
    have x0 := cell_of_row w3 w.heap.size 0 _ _ (0, 0) (HX.out _ HB3.out)
    have x1 := cell_of_row w3 w.heap.size 1 _ _ (0, 0) (HX.out _ HB3.out)
    have x2 := cell_of_row w3 w.heap.size 2 _ _ (0, 0) (HX.out _ HB3.out)
    have x3 := cell_of_row w3 w.heap.size 3 _ _ (0, 0) (HX.out _ HB3.out)
    have x4 := cell_of_row w3 w.heap.size 4 _ _ (0, 0) (HX.out _ HB3.out)
    have x5 := cell_of_row w3 w.heap.size 5 _ _ (0, 0) (HX.out _ HB3.out)
    have x6 := cell_of_row w3 w.heap.size 6 _ _ (0, 0) (HX.out _ HB3.out)
    have x7 := cell_of_row w3 w.heap.size 7 _ _ (0, 0) (HX.out _ HB3.out)
    have x8 := cell_of_row w3 w.heap.size 8 _ _ (0, 0) (HX.out _ HB3.out)
    have x9 := cell_of_row w3 w.heap.size 9 _ _ (0, 0) (HX.out _ HB3.out)
    simp only [List.getElem?_toArray, List.getElem?_cons_zero, List.getElem?_cons_succ] at x0 x1 x2 x3 x4 x5 x6 x7 x8 x9
    go_wp2_with fail
    refine (HN.out _ (HW.out _ HB3.out)).mono ?_
    rintro e w4 ⟨k', n', s', t', A0', n0', m0', A1', n1', m1', A2', n2', m2', rfl, hr, hb⟩
    have HB4 := Lib.hid (HB3.out.trans (hb.mono HB3.out.size))
    have HQ4 := Lib.hid (HQ3.out.kept (grown_below hb none) (by simp))
    have HR4 := Lib.hid hr
    clear hb hr x0 x1 x2 x3 x4 x5 x6 x7 x8 x9
    go_wp2_with fail
    refine (HK.out _ _ _ _ _ _ _ _ _ _ _ _ _ _ HR4.out).mono ?_
    rintro e w5 ⟨k2, n2', s2, t2, C0, u0, y0, C1, u1, y1, C2, u2, y2, rfl, hr, hb⟩
    have HB5 := Lib.hid (HB4.out.trans (hb.mono HB4.out.size))
    have HQ5 := Lib.hid (HQ4.out.kept (grown_below hb none) (by simp))
    have HR5 := Lib.hid (hr.weaken (Q := fun z => z ≠ W1.heap.size) (fun z hz => by have := HQ4.out.lt; omega))
    clear hb hr
    have v0 := HQ5.out.c0
    have fz0 := HQ5.out.fr 0
    have v1 := HQ5.out.c1
    have fz1 := HQ5.out.fr 1
    have v2 := HQ5.out.c2
    have fz2 := HQ5.out.fr 2
    have v3 := HQ5.out.c3
    have fz3 := HQ5.out.fr 3
    have v4 := HQ5.out.c4
    have fz4 := HQ5.out.fr 4
    have v5 := HQ5.out.c5
    have fz5 := HQ5.out.fr 5
    have v6 := HQ5.out.c6
    have fz6 := HQ5.out.fr 6
    go_wp2_with fail
    have hset := set7_grown w5 W1.heap.size (.int .i64 k2) (.int .i64 n2') (.string s2) (.string t2) (.slice C0 u0 y0) (.slice C1 u1 y1) (.slice C2 u2 y2)
    have hbf := HB5.out.grown hset HB5.out.size (fun j e => Nat.le_of_eq (Option.some.inj e))
    refine bodyPost_ret (res_whole rfl rfl (HQ5.out.all _ _ _ _ _ _ _)) rfl ⟨HW.out _ hbf, k2, n2', s2, t2, C0, u0, y0, C1, u1, y1, C2, u2, y2, by rw [← HV.out], ?_⟩
    rw [← HV.out, if_pos rfl]
    exact (HR5.out.keepC (KC.of_grown hset (fun z hz e => hz (Option.some.inj e)))).weaken (fun _ _ => trivial)
  · have hqb : (V == 0) = false := beq_eq_false_iff_ne.2 hv
    have hqc : (V != 0) = true := by simp [hv]
    have v0 := HQ3.out.c0
    have fz0 := HQ3.out.fr 0
    have v1 := HQ3.out.c1
    have fz1 := HQ3.out.fr 1
    have v2 := HQ3.out.c2
    have fz2 := HQ3.out.fr 2
    have v3 := HQ3.out.c3
    have fz3 := HQ3.out.fr 3
    have v4 := HQ3.out.c4
    have fz4 := HQ3.out.fr 4
    have v5 := HQ3.out.c5
    have fz5 := HQ3.out.fr 5
    have v6 := HQ3.out.c6
    have fz6 := HQ3.out.fr 6
    go_wp2_with fail
    have hset := set7_grown w3 W1.heap.size (.int .i64 0) (.int .i64 0) (.string ⟨#[]⟩) (.string ⟨#[]⟩) (.slice none 0 0) (.slice none 0 0) (.slice none 0 0)
    have hbf := HB3.out.grown hset HB3.out.size (fun j e => Nat.le_of_eq (Option.some.inj e))
    refine bodyPost_ret (res_whole rfl rfl (HQ3.out.all _ _ _ _ _ _ _)) rfl ⟨HW.out _ hbf, 0, 0, ⟨#[]⟩, ⟨#[]⟩, none, 0, 0, none, 0, 0, none, 0, 0, by rw [← HV.out], ?_⟩
    rw [← HV.out, if_neg hv]
    exact rep_zero _ _
end Go.Proofs.YtbmicnajedeenaaGreatDoor
/- The reference's level of an expression. -/
namespace Go.Proofs.YtbmicnajedeenaaGreatDoor
open Go.RowKit

end Go.Proofs.YtbmicnajedeenaaGreatDoor
/- The reference's joined; an expression's text where a level is asked for. -/
namespace Go.Proofs.YtbmicnajedeenaaGreatDoor
open Go.RowKit

theorem strB_cat (a b : Txt) : strB (a ++ b) = strB a ++ strB b := by
  apply Go.WideShapes.bytes_inj
  rw [cat_data, data_strB, data_strB, data_strB]
end Go.Proofs.YtbmicnajedeenaaGreatDoor
/- The reference's text of an expression where a level is asked for. -/
namespace Go.Proofs.YtbmicnajedeenaaGreatDoor
open Go.RowKit

end Go.Proofs.YtbmicnajedeenaaGreatDoor
/- Expressions, compared: the plain comparison. -/
namespace Go.Proofs.YtbmicnajedeenaaGreatDoor
open Go.RowKit

/-- the fields of two nodes agree, but for their parts -/
def hdE (a b : Ex) : Bool := decide (a.k = b.k) && (decide (a.n = b.n) && (decide (a.s = b.s) && (decide (a.t = b.t) && decide (a.ns = b.ns))))
mutual
def sameE : Ex → Ex → Bool
  | .mk k n s t ns l ops bs, .mk k' n' s' t' ns' l' ops' bs' => hdE (.mk k n s t ns l ops bs) (.mk k' n' s' t' ns' l' ops' bs') && (sameL l l' && sameA ops bs ops' bs')
def sameL : List Ex → List Ex → Bool
  | [], [] => true
  | x :: r, y :: q => sameE x y && sameL r q
  | _, _ => false
def sameA : List (Txt × List Txt) → List Ex → List (Txt × List Txt) → List Ex → Bool
  | _, [], _, [] => true
  | o :: ro, x :: r, p :: rp, y :: q => (decide (o = p) && sameE x y) && sameA ro r rp q
  | _, _, _, _ => false
end
theorem sameE_eq (a b : Ex) : sameE a b = (hdE a b && (sameL a.l b.l && sameA a.ops a.bs b.ops b.bs)) := by
  cases a; cases b; rw [sameE]; rfl
theorem sameL_len : ∀ {l m : List Ex}, sameL l m = true → l.length = m.length
  | [], [], _ => rfl
  | [], _ :: _, h => by simp [sameL] at h
  | _ :: _, [], h => by simp [sameL] at h
  | x :: r, y :: q, h => by
    rw [sameL, Bool.and_eq_true] at h
    rw [List.length_cons, List.length_cons, sameL_len h.2]
theorem sameA_len : ∀ {o p : List (Txt × List Txt)} {l m : List Ex}, sameA o l p m = true → l.length = m.length
  | _, _, [], [], _ => rfl
  | o, p, [], _ :: _, h => by cases o <;> cases p <;> simp [sameA] at h
  | o, p, _ :: _, [], h => by cases o <;> cases p <;> simp [sameA] at h
  | [], p, _ :: _, _ :: _, h => by cases p <;> simp [sameA] at h
  | _ :: _, [], _ :: _, _ :: _, h => by simp [sameA] at h
  | o :: ro, p :: rp, x :: r, y :: q, h => by
    rw [sameA, Bool.and_eq_true] at h
    rw [List.length_cons, List.length_cons, sameA_len h.2]
theorem sameL_snoc : ∀ {l m : List Ex} (x y : Ex), l.length = m.length → sameL (l ++ [x]) (m ++ [y]) = (sameL l m && sameE x y)
  | [], [], x, y, _ => by simp [sameL]
  | [], _ :: _, _, _, h => by simp at h
  | _ :: _, [], _, _, h => by simp at h
  | a :: r, b :: q, x, y, h => by
    rw [List.cons_append, List.cons_append, sameL, sameL, sameL_snoc x y (by simpa using h), Bool.and_assoc]
theorem sameA_snoc : ∀ {o p : List (Txt × List Txt)} {l m : List Ex} (u v : Txt × List Txt) (x y : Ex), l.length = m.length → o.length = l.length → p.length = m.length → sameA (o ++ [u]) (l ++ [x]) (p ++ [v]) (m ++ [y]) = (sameA o l p m && (decide (u = v) && sameE x y))
  | [], [], [], [], u, v, x, y, _, _, _ => by simp [sameA]
  | a :: ro, c :: rp, b :: r, d :: q, u, v, x, y, h1, h2, h3 => by
    rw [List.cons_append, List.cons_append, List.cons_append, List.cons_append, sameA, sameA, sameA_snoc u v x y (by simpa using h1) (by simpa using h2) (by simpa using h3)]
    simp only [Bool.and_assoc]
  | _ :: _, _, [], _, _, _, _, _, _, h, _ => by simp at h
  | [], _, _ :: _, _, _, _, _, _, _, h, _ => by simp at h
  | _, _ :: _, _, [], _, _, _, _, _, _, h => by simp at h
  | _, [], _, _ :: _, _, _, _, _, _, _, h => by simp at h
  | _, _, [], _ :: _, _, _, _, _, h, _, _ => by simp at h
  | _, _, _ :: _, [], _, _, _, _, h, _, _ => by simp at h
/-- some pair of parts differs: the lists do -/
theorem sameL_part : ∀ {l m : List Ex} (k : Nat) (x y : Ex), l[k]? = some x → m[k]? = some y → sameE x y = false → sameL l m = false
  | [], _, k, _, _, h, _, _ => by simp at h
  | _ :: _, [], k, _, _, _, h, _ => by simp at h
  | a :: r, b :: q, 0, x, y, h1, h2, h => by
    simp at h1 h2; subst h1; subst h2
    rw [sameL, h]; rfl
  | a :: r, b :: q, k + 1, x, y, h1, h2, h => by
    rw [sameL, sameL_part k x y (by simpa using h1) (by simpa using h2) h, Bool.and_false]
theorem sameA_part : ∀ {o p : List (Txt × List Txt)} {l m : List Ex} (k : Nat) (u v : Txt × List Txt) (x y : Ex), o[k]? = some u → p[k]? = some v → l[k]? = some x → m[k]? = some y → (decide (u = v) && sameE x y) = false → sameA o l p m = false
  | [], _, _, _, k, _, _, _, _, h, _, _, _, _ => by simp at h
  | _ :: _, [], _, _, k, _, _, _, _, _, h, _, _, _ => by simp at h
  | _ :: _, _ :: _, [], _, k, _, _, _, _, _, _, h, _, _ => by simp at h
  | _ :: _, _ :: _, _ :: _, [], k, _, _, _, _, _, _, _, h, _ => by simp at h
  | a :: ro, c :: rp, b :: r, d :: q, 0, u, v, x, y, h1, h2, h3, h4, h => by
    simp at h1 h2 h3 h4; subst h1; subst h2; subst h3; subst h4
    rw [sameA, h]; rfl
  | a :: ro, c :: rp, b :: r, d :: q, k + 1, u, v, x, y, h1, h2, h3, h4, h => by
    rw [sameA, sameA_part k u v x y (by simpa using h1) (by simpa using h2) (by simpa using h3) (by simpa using h4) h, Bool.and_false]
end Go.Proofs.YtbmicnajedeenaaGreatDoor
/- The reference's text, kind by kind: what serves all kinds. -/
namespace Go.Proofs.YtbmicnajedeenaaGreatDoor
open Go.RowKit

theorem PartsAt.below {B : Nat} {w w' : World} {A : Option Addr} {l : List Ex} (h : PartsAt B w A l) (hb : Below w.heap.size w w') : PartsAt B w' A l := fun h0 => by
  obtain ⟨b, off, e, h1, h2, hc⟩ := h h0
  have k : ∀ o, w'.cell? ⟨b, o, none⟩ = w.cell? ⟨b, o, none⟩ := fun o => Below.cell (p := ⟨b, o, none⟩) hb h2
  refine ⟨b, off, e, h1, Nat.lt_of_lt_of_le h2 hb.size, fun j e hj => ?_⟩
  obtain ⟨k0, n, s, t, A0, n0, c0, A1, n1, c1, A2, n2, c2, hr, d0, d1, d2, d3, d4, d5, d6⟩ := hc j e hj
  exact ⟨k0, n, s, t, A0, n0, c0, A1, n1, c1, A2, n2, c2, hr.keep (Same.of_below hb), (k _).trans d0, (k _).trans d1, (k _).trans d2, (k _).trans d3, (k _).trans d4, (k _).trans d5, (k _).trans d6⟩
theorem ArmsAt.below {B : Nat} {w w' : World} {A : Option Addr} {hs : List (Txt × List Txt)} {bs : List Ex} (h : ArmsAt B w A hs bs) (hb : Below w.heap.size w w') : ArmsAt B w' A hs bs := fun h0 => by
  obtain ⟨b, off, e, h1, h2, hc⟩ := h h0
  have kk : ∀ o, w'.cell? ⟨b, o, none⟩ = w.cell? ⟨b, o, none⟩ := fun o => Below.cell (p := ⟨b, o, none⟩) hb h2
  refine ⟨b, off, e, h1, Nat.lt_of_lt_of_le h2 hb.size, fun j hd e g1 g2 => ?_⟩
  obtain ⟨An, cn, k, n, s, t, A0, n0, c0, A1, n1, c1, A2, n2, c2, H⟩ := hc j hd e g1 g2
  exact ⟨An, cn, k, n, s, t, A0, n0, c0, A1, n1, c1, A2, n2, c2, H.names.keep (Same.of_below hb), H.len, H.rep.keep (Same.of_below hb), (kk _).trans H.d0, (kk _).trans H.d1, (kk _).trans H.d2, (kk _).trans H.d3, (kk _).trans H.d4, (kk _).trans H.d5, (kk _).trans H.d6, (kk _).trans H.d7, (kk _).trans H.d8⟩
theorem PtS.keep {w0 w : World} {b o : Nat} {v : Value} (h : PtS w0 w) (hlt : b < w0.heap.size) (hc : w0.cell? ⟨b, o, none⟩ = some v) : w.cell? ⟨b, o, none⟩ = some v := (Below.cell (p := ⟨b, o, none⟩) (show Below w0.heap.size w0 w from h) hlt).trans hc
theorem PartCells.up {B b o : Nat} {w W1 : World} {e : Ex} {k n : Int} {s t : ByteArray} {A0 : Option Addr} {n0 c0 : Nat} {A1 : Option Addr} {n1 c1 : Nat} {A2 : Option Addr} {n2 c2 : Nat} (h : PartCells B w b o e k n s t A0 n0 c0 A1 n1 c1 A2 n2 c2) (hb : b < w.heap.size) (hB : Below w.heap.size w W1) :
    W1.cell? ⟨b, o, none⟩ = some (.int .i64 k) ∧ W1.cell? ⟨b, o + 1, none⟩ = some (.int .i64 n) ∧ W1.cell? ⟨b, o + 2, none⟩ = some (.string s) ∧ W1.cell? ⟨b, o + 3, none⟩ = some (.string t) ∧ W1.cell? ⟨b, o + 4, none⟩ = some (.slice A0 n0 c0) ∧ W1.cell? ⟨b, o + 5, none⟩ = some (.slice A1 n1 c1) ∧ W1.cell? ⟨b, o + 6, none⟩ = some (.slice A2 n2 c2) := by
  have k : ∀ o, W1.cell? ⟨b, o, none⟩ = w.cell? ⟨b, o, none⟩ := fun o => Below.cell (p := ⟨b, o, none⟩) hB hb
  exact ⟨(k _).trans h.d0, (k _).trans h.d1, (k _).trans h.d2, (k _).trans h.d3, (k _).trans h.d4, (k _).trans h.d5, (k _).trans h.d6⟩
end Go.Proofs.YtbmicnajedeenaaGreatDoor
/- The reference's Same. -/
namespace Go.Proofs.YtbmicnajedeenaaGreatDoor
open Go.RowKit

/-- what a comparison of an expression with any other one answers -/
def SmSays (f : Nat) (a : Ex) : Prop := ∀ (b : Ex) (cs1 cs2 : List Value) (w : World), RepE (fun _ => True) w a cs1 → RepE (fun _ => True) w b cs2 → Calls Tryz.prog f #[.agg cs1.toArray, .agg cs2.toArray] w fun r w' => r = .returned (.bool (sameE a b)) ∧ Below w.heap.size w w'
theorem ArmCells.up {B b o : Nat} {w W1 : World} {h : Txt × List Txt} {e : Ex} {An : Option Addr} {cn : Nat} {k n : Int} {s t : ByteArray} {A0 : Option Addr} {n0 c0 : Nat} {A1 : Option Addr} {n1 c1 : Nat} {A2 : Option Addr} {n2 c2 : Nat} (H : ArmCells B w b o h e An cn k n s t A0 n0 c0 A1 n1 c1 A2 n2 c2) (hb : b < w.heap.size) (hB : Below w.heap.size w W1) :
    W1.cell? ⟨b, o, none⟩ = some (.string (strB h.1)) ∧ W1.cell? ⟨b, o + 1, none⟩ = some (.slice An h.2.length cn) ∧ W1.cell? ⟨b, o + 2, none⟩ = some (.int .i64 k) ∧ W1.cell? ⟨b, o + 3, none⟩ = some (.int .i64 n) ∧ W1.cell? ⟨b, o + 4, none⟩ = some (.string s) ∧ W1.cell? ⟨b, o + 5, none⟩ = some (.string t) ∧ W1.cell? ⟨b, o + 6, none⟩ = some (.slice A0 n0 c0) ∧ W1.cell? ⟨b, o + 7, none⟩ = some (.slice A1 n1 c1) ∧ W1.cell? ⟨b, o + 8, none⟩ = some (.slice A2 n2 c2) := by
  have k : ∀ o, W1.cell? ⟨b, o, none⟩ = w.cell? ⟨b, o, none⟩ := fun o => Below.cell (p := ⟨b, o, none⟩) hB hb
  exact ⟨(k _).trans H.d0, (k _).trans H.d1, (k _).trans H.d2, (k _).trans H.d3, (k _).trans H.d4, (k _).trans H.d5, (k _).trans H.d6, (k _).trans H.d7, (k _).trans H.d8⟩
set_option maxRecDepth 100000 in
set_option maxHeartbeats 8000000 in
theorem rSame_any : ∀ a, SmSays 8 a := by
  refine Ex.ind fun a ih b cs1 cs2 w h1 h2 => ?_
  cases a with
  | mk k n s t ns l ops bs =>
  cases b with
  | mk k' n' s' t' ns' l' ops' bs' =>
  have hE := sameE_eq (.mk k n s t ns l ops bs) (.mk k' n' s' t' ns' l' ops' bs')
  have h1' := h1.tight.weaken (Q := fun b => b < w.heap.size) (fun x hx => hx.2)
  have h2' := h2.tight.weaken (Q := fun b => b < w.heap.size) (fun x hx => hx.2)
  obtain ⟨An, cn, Al, cl, Aa, ca, rfl, hf, hn, hl, ha, ho⟩ := h1'
  obtain ⟨Bn, dn, Bl, dl, Ba, da, rfl, hf', hn', hl', ha', ho'⟩ := h2'
  have bd1 : ns.length ≤ maxLen := Nat.le_trans hf.hcn.1 hf.hcn.2
  have bd1' : ns'.length ≤ maxLen := Nat.le_trans hf'.hcn.1 hf'.hcn.2
  have bd2 : l.length ≤ maxLen := Nat.le_trans hf.hcl.1 hf.hcl.2
  have bd2' : l'.length ≤ maxLen := Nat.le_trans hf'.hcl.1 hf'.hcl.2
  have bd3 : bs.length ≤ maxLen := Nat.le_trans hf.hca.1 hf.hca.2
  have bd3' : bs'.length ≤ maxLen := Nat.le_trans hf'.hca.1 hf'.hca.2
  have hPl := parts_of hl
  have hPl' := parts_of hl'
  have hPa := arms_of ha
  have hPa' := arms_of ha'
  obtain ⟨S, hS⟩ : ∃ S, S = strB s := ⟨_, rfl⟩
  obtain ⟨T, hT⟩ : ∃ S, S = strB t := ⟨_, rfl⟩
  obtain ⟨nn, hnn⟩ : ∃ q, q = ns.length := ⟨_, rfl⟩
  obtain ⟨nl, hnl⟩ : ∃ q, q = l.length := ⟨_, rfl⟩
  obtain ⟨nb, hnb⟩ : ∃ q, q = bs.length := ⟨_, rfl⟩
  obtain ⟨S', hS'⟩ : ∃ S, S = strB s' := ⟨_, rfl⟩
  obtain ⟨T', hT'⟩ : ∃ S, S = strB t' := ⟨_, rfl⟩
  obtain ⟨nn', hnn'⟩ : ∃ q, q = ns'.length := ⟨_, rfl⟩
  obtain ⟨nl', hnl'⟩ : ∃ q, q = l'.length := ⟨_, rfl⟩
  obtain ⟨nb', hnb'⟩ : ∃ q, q = bs'.length := ⟨_, rfl⟩
  have HNm : Hid (∀ w', Below w.heap.size w w' → Calls Tryz.prog 25 #[.slice An nn cn, .slice Bn nn' dn] w' fun e w2 => e = .returned (.bool (decide (ns = ns'))) ∧ Below w'.heap.size w' w2) := Lib.hid (fun w' hb => by
    rw [hnn, hnn']
    exact (sameNames_any _ _ An Bn cn dn ns ns' w' (hn.keep (Same.of_below hb)) (hn'.keep (Same.of_below hb)) ⟨bd1, bd1'⟩).mono fun e w2 h => ⟨h.1, h.2.below⟩)
  obtain ⟨R, hR⟩ : ∃ R, R = sameE (.mk k n s t ns l ops bs) (.mk k' n' s' t' ns' l' ops' bs') := ⟨_, rfl⟩
  show Calls Tryz.prog 8 #[.agg #[.int .i64 k, .int .i64 n, .string (strB s), .string (strB t), .slice An ns.length cn, .slice Al l.length cl, .slice Aa bs.length ca], .agg #[.int .i64 k', .int .i64 n', .string (strB s'), .string (strB t'), .slice Bn ns'.length dn, .slice Bl l'.length dl, .slice Ba bs'.length da]] w fun r w' => r = .returned (.bool (sameE (.mk k n s t ns l ops bs) (.mk k' n' s' t' ns' l' ops' bs'))) ∧ Below w.heap.size w w'
  rw [← hR, ← hS, ← hS', ← hT, ← hT', ← hnn, ← hnn', ← hnl, ← hnl', ← hnb, ← hnb']
  rw [← hR] at hE
  have hnlb : (nl : Int) ≤ 9223372036854775807 := by rw [hnl]; unfold maxLen at bd2; omega
  have hnbb : (nb : Int) ≤ 9223372036854775807 := by rw [hnb]; unfold maxLen at bd3; omega
  have HB2 : Hid (Below w.heap.size w ((w.alloc (.cells #[.int .i64 k, .int .i64 n, .string S, .string T, .slice An nn cn, .slice Al nl cl, .slice Aa nb ca] 30)).alloc (.cells #[.int .i64 k', .int .i64 n', .string S', .string T', .slice Bn nn' dn, .slice Bl nl' dl, .slice Ba nb' da] 30))) := Lib.hid (((Below.refl _ _).alloc (Nat.le_refl _) _).alloc (by simp) _)
  obtain ⟨W2, hW2⟩ : ∃ W, (w.alloc (.cells #[.int .i64 k, .int .i64 n, .string S, .string T, .slice An nn cn, .slice Al nl cl, .slice Aa nb ca] 30)).alloc (.cells #[.int .i64 k', .int .i64 n', .string S', .string T', .slice Bn nn' dn, .slice Bl nl' dl, .slice Ba nb' da] 30) = W := ⟨_, rfl⟩
  have HEa : Hid (EB W2 w.heap.size (.int .i64 k) (.int .i64 n) (.string S) (.string T) (.slice An nn cn) (.slice Al nl cl) (.slice Aa nb ca)) := Lib.hid (by rw [← hW2]; exact (EB.new w _ _ _ _ _ _ _).kept (World.grownBy_alloc _ _ none) (by simp))
  have HEb : Hid (EB W2 (w.heap.size + 1) (.int .i64 k') (.int .i64 n') (.string S') (.string T') (.slice Bn nn' dn) (.slice Bl nl' dl) (.slice Ba nb' da)) := Lib.hid (by rw [← hW2]; have := EB.new (w.alloc (.cells #[.int .i64 k, .int .i64 n, .string S, .string T, .slice An nn cn, .slice Al nl cl, .slice Aa nb ca] 30)) (.int .i64 k') (.int .i64 n') (.string S') (.string T') (.slice Bn nn' dn) (.slice Bl nl' dl) (.slice Ba nb' da); rwa [World.size_alloc] at this)
  rw [hW2] at HB2
  have a0 := HEa.out.c0
  have b0 := HEb.out.c0
  have a1 := HEa.out.c1
  have b1 := HEb.out.c1
  have a2 := HEa.out.c2
  have b2 := HEb.out.c2
  have a3 := HEa.out.c3
  have b3 := HEb.out.c3
  have a4 := HEa.out.c4
  have b4 := HEb.out.c4
  have a5 := HEa.out.c5
  have b5 := HEb.out.c5
  have a6 := HEa.out.c6
  have b6 := HEb.out.c6
  clear bd1 bd1' bd2 bd2' bd3 bd3' hf hf' hn hn' hl hl' ha ha' h1 h2
  by_cases ek : k = k'
  case neg =>
    have HR : Hid (R = false) := Lib.hid (by rw [hE, show hdE _ _ = false from by simp [hdE, Ex.k, Ex.n, Ex.s, Ex.t, Ex.ns, ek]]; rfl)
    have f1 : (k != k') = true := by simpa using ek
    clear hS hS' hT hT' hnn hnn' hnl hnl' hnb hnb' hR hE hPl hPl' hPa hPa' ih ho ho' ek
    go_enter Tryz.func8, Tryz.ntmps8
    go_wp2_with fail
    go_ret
    exact ⟨by rw [HR.out]; rfl, HB2.out⟩
  subst ek
  by_cases en : n = n'
  case neg =>
    have HR : Hid (R = false) := Lib.hid (by rw [hE, show hdE _ _ = false from by simp [hdE, Ex.k, Ex.n, Ex.s, Ex.t, Ex.ns, en]]; rfl)
    have f1 : (n != n') = true := by simpa using en
    clear hS hS' hT hT' hnn hnn' hnl hnl' hnb hnb' hR hE hPl hPl' hPa hPa' ih ho ho' en
    go_enter Tryz.func8, Tryz.ntmps8
    go_wp2_with fail
    go_ret
    exact ⟨by rw [HR.out]; rfl, HB2.out⟩
  subst en
  by_cases es : s = s'
  case neg =>
    have HR : Hid (R = false) := Lib.hid (by rw [hE, show hdE _ _ = false from by simp [hdE, Ex.k, Ex.n, Ex.s, Ex.t, Ex.ns, es]]; rfl)
    have f0 : (S.toList == S'.toList) = false := by rw [hS, hS', ByteArray.toList_eq, ByteArray.toList_eq, data_strB, data_strB]; exact beq_eq_false_iff_ne.2 es
    have f1 : (S.toList != S'.toList) = true := by simp only [bne, f0]; rfl
    clear hS hS' hT hT' hnn hnn' hnl hnl' hnb hnb' hR hE hPl hPl' hPa hPa' ih ho ho' es
    go_enter Tryz.func8, Tryz.ntmps8
    go_wp2_with fail
    go_ret
    exact ⟨by rw [HR.out]; rfl, HB2.out⟩
  subst es
  obtain rfl : S' = S := by rw [hS, hS']
  by_cases et : t = t'
  case neg =>
    have HR : Hid (R = false) := Lib.hid (by rw [hE, show hdE _ _ = false from by simp [hdE, Ex.k, Ex.n, Ex.s, Ex.t, Ex.ns, et]]; rfl)
    have f0 : (T.toList == T'.toList) = false := by rw [hT, hT', ByteArray.toList_eq, ByteArray.toList_eq, data_strB, data_strB]; exact beq_eq_false_iff_ne.2 et
    have f1 : (T.toList != T'.toList) = true := by simp only [bne, f0]; rfl
    clear hS hS' hT hT' hnn hnn' hnl hnl' hnb hnb' hR hE hPl hPl' hPa hPa' ih ho ho' et
    go_enter Tryz.func8, Tryz.ntmps8
    go_wp2_with fail
    go_ret
    exact ⟨by rw [HR.out]; rfl, HB2.out⟩
  subst et
  obtain rfl : T' = T := by rw [hT, hT']
  by_cases ens : ns = ns'
  case neg =>
    have HR : Hid (R = false) := Lib.hid (by rw [hE, show hdE _ _ = false from by simp [hdE, Ex.k, Ex.n, Ex.s, Ex.t, Ex.ns, ens]]; rfl)
    rw [show decide (ns = ns') = false from decide_eq_false ens] at HNm
    clear hS hS' hT hT' hnn hnn' hnl hnl' hnb hnb' hR hE hPl hPl' hPa hPa' ih ho ho' ens
    go_enter Tryz.func8, Tryz.ntmps8
    go_wp2_with fail
    clear hW2
    refine (HNm.out _ HB2.out).mono ?_
    rintro r w3 ⟨rfl, hb⟩
    have HB3 := Lib.hid (HB2.out.trans (hb.mono HB2.out.size))
    have HEa3 := Lib.hid (HEa.out.kept (grown_below hb none) (by simp))
    have HEb3 := Lib.hid (HEb.out.kept (grown_below hb none) (by simp))
    clear hb a0 a1 a2 a3 a4 a5 a6 b0 b1 b2 b3 b4 b5 b6
    have a5 := HEa3.out.c5
    have b5 := HEb3.out.c5
    have a6 := HEa3.out.c6
    have b6 := HEb3.out.c6
    go_wp2_with fail
    go_ret
    exact ⟨by rw [HR.out]; rfl, HB3.out⟩
  rw [show decide (ns = ns') = true from decide_eq_true ens] at HNm
  by_cases enl : nl = nl'
  case neg =>
    have HR : Hid (R = false) := Lib.hid (by
      rw [hE]
      have h0 : sameL l l' = false := by
        cases hq : sameL l l' with
        | false => rfl
        | true => exact absurd (by rw [hnl, hnl']; exact sameL_len hq) enl
      show (_ && (sameL l l' && _)) = false
      rw [h0]; simp)
    have f1 : ((nl : Int) != (nl' : Int)) = true := by simp; omega
    have f2 : ((nl : Int) == (nl' : Int)) = false := by simp; omega
    clear hS hS' hT hT' hnn hnn' hnl hnl' hnb hnb' hR hE hPl hPl' hPa hPa' ih ho ho' ens enl
    go_enter Tryz.func8, Tryz.ntmps8
    go_wp2_with fail
    clear hW2
    refine (HNm.out _ HB2.out).mono ?_
    rintro r w3 ⟨rfl, hb⟩
    have HB3 := Lib.hid (HB2.out.trans (hb.mono HB2.out.size))
    have HEa3 := Lib.hid (HEa.out.kept (grown_below hb none) (by simp))
    have HEb3 := Lib.hid (HEb.out.kept (grown_below hb none) (by simp))
    clear hb a0 a1 a2 a3 a4 a5 a6 b0 b1 b2 b3 b4 b5 b6
    have a5 := HEa3.out.c5
    have b5 := HEb3.out.c5
    have a6 := HEa3.out.c6
    have b6 := HEb3.out.c6
    go_wp2_with fail
    go_ret
    exact ⟨by rw [HR.out]; rfl, HB3.out⟩
  subst enl
  by_cases enb : nb = nb'
  case neg =>
    have HR : Hid (R = false) := Lib.hid (by
      rw [hE]
      have h0 : sameA ops bs ops' bs' = false := by
        cases hq : sameA ops bs ops' bs' with
        | false => rfl
        | true => exact absurd (by rw [hnb, hnb']; exact sameA_len hq) enb
      show (_ && (_ && sameA ops bs ops' bs')) = false
      rw [h0]; simp)
    have f1 : ((nb : Int) != (nb' : Int)) = true := by simp; omega
    have f2 : ((nb : Int) == (nb' : Int)) = false := by simp; omega
    clear hS hS' hT hT' hnn hnn' hnl hnl' hnb hnb' hR hE hPl hPl' hPa hPa' ih ho ho' ens enb
    go_enter Tryz.func8, Tryz.ntmps8
    go_wp2_with fail
    clear hW2
    refine (HNm.out _ HB2.out).mono ?_
    rintro r w3 ⟨rfl, hb⟩
    have HB3 := Lib.hid (HB2.out.trans (hb.mono HB2.out.size))
    have HEa3 := Lib.hid (HEa.out.kept (grown_below hb none) (by simp))
    have HEb3 := Lib.hid (HEb.out.kept (grown_below hb none) (by simp))
    clear hb a0 a1 a2 a3 a4 a5 a6 b0 b1 b2 b3 b4 b5 b6
    have a5 := HEa3.out.c5
    have b5 := HEb3.out.c5
    have a6 := HEa3.out.c6
    have b6 := HEb3.out.c6
    go_wp2_with fail
    go_ret
    exact ⟨by rw [HR.out]; rfl, HB3.out⟩
  subst enb
  have HRt : Hid (R = (sameL l l' && sameA ops bs ops' bs')) := Lib.hid (by rw [hE, show hdE _ _ = true from by simp [hdE, Ex.k, Ex.n, Ex.s, Ex.t, Ex.ns, ens]]; rfl)
  have HNl := Lib.hid hnl
  have HNl' := Lib.hid hnl'
  have HNb := Lib.hid hnb
  have HNb' := Lib.hid hnb'
  have HPl := Lib.hid hPl
  have HPl' := Lib.hid hPl'
  have HPa := Lib.hid hPa
  have HPa' := Lib.hid hPa'
  have HIH := Lib.hid ih
  have HOl := Lib.hid ho
  have HOl' := Lib.hid ho'
  clear hS hS' hT hT' hnn hnn' hnl hnl' hnb hnb' hR hE hPl hPl' hPa hPa' ih ho ho' ens
  go_enter Tryz.func8, Tryz.ntmps8
  go_wp2_with fail
  clear hW2
  refine (HNm.out _ HB2.out).mono ?_
  rintro r w3 ⟨rfl, hb⟩
  have HB3 := Lib.hid (HB2.out.trans (hb.mono HB2.out.size))
  have HEa3 := Lib.hid (HEa.out.kept (grown_below hb none) (by simp))
  have HEb3 := Lib.hid (HEb.out.kept (grown_below hb none) (by simp))
  clear hb a0 a1 a2 a3 a4 a5 a6 b0 b1 b2 b3 b4 b5 b6
  have a5 := HEa3.out.c5
  have b5 := HEb3.out.c5
  have a6 := HEa3.out.c6
  have b6 := HEb3.out.c6
  have hzw : w.heap.size + 1 < w3.heap.size := HEb3.out.lt
  go_wp2_with fail
  go_loopw [5] (fun i wr => ∃ kk : Nat, kk ≤ nl ∧ i = .int .i64 (kk : Int) ∧ Hid (Below w3.heap.size w3 wr) ∧ Hid (sameL (l.take kk) (l'.take kk) = true)) (fun i _ => nl - (intOf i).toNat)
  case atStart => exact ⟨0, Nat.zero_le _, rfl, Lib.hid (Below.refl _ _), Lib.hid rfl⟩
  case round =>
    obtain ⟨kk, hkk, rfl, hB, hSm⟩ := hrel
    clear a5 b5 a6 b6
    have HB0 := Lib.hid (HB3.out.trans (hB.out.mono HB3.out.size))
    have hzr : w.heap.size + 1 < wr.heap.size := Nat.lt_of_lt_of_le hzw hB.out.size
    have HEar := Lib.hid (HEa3.out.kept (grown_below hB.out none) (by simp))
    have HEbr := Lib.hid (HEb3.out.kept (grown_below hB.out none) (by simp))
    have hs0 : PtS wr wr := Below.refl _ _
    have a5 := HEar.out.c5
    have b5 := HEbr.out.c5
    have j0 : (0 : Int) ≤ (kk : Int) := by omega
    by_cases hkl : kk < nl
    case pos =>
      have hk1 : kk < l.length := by rw [← HNl.out]; exact hkl
      have hk2 : kk < l'.length := by rw [← HNl'.out]; exact hkl
      have j1 : (kk : Int) < (nl : Int) := by omega
      obtain ⟨x, hx⟩ : ∃ x, x = l[kk] := ⟨_, rfl⟩
      obtain ⟨y, hy⟩ : ∃ x, x = l'[kk] := ⟨_, rfl⟩
      have hxl : l[kk]? = some x := by rw [hx]; exact List.getElem?_eq_getElem hk1
      have hyl : l'[kk]? = some y := by rw [hy]; exact List.getElem?_eq_getElem hk2
      have hx7 := HPl.out
      have hy7 := HPl'.out
      obtain ⟨b, off, rfl⟩ := HPl.out.addr (by omega)
      obtain ⟨b', off', rfl⟩ := HPl'.out.addr (by omega)
      obtain ⟨⟨hbx, _⟩, k1, m1, s1, t1, X0, p0, c0, X1, p1, c1, X2, p2, c2, hcx⟩ := HPl.out.at hxl
      obtain ⟨⟨hby, _⟩, k2, m2, s2, t2, Y0, q0, d0, Y1, q1, d1, Y2, q2, d2, hcy⟩ := HPl'.out.at hyl
      obtain ⟨f0, f1, f2, f3, f4, f5, f6⟩ := hcx.up hbx HB0.out
      obtain ⟨g0, g1, g2, g3, g4, g5, g6⟩ := hcy.up hby HB0.out
      have hbx2 : b < wr.heap.size := Nat.lt_of_lt_of_le hbx HB0.out.size
      have hby2 : b' < wr.heap.size := Nat.lt_of_lt_of_le hby HB0.out.size
      obtain ⟨V, hV⟩ : ∃ V, V = sameE x y := ⟨_, rfl⟩
      have HS : Hid (∀ w', PtS wr w' → Calls Tryz.prog 8 #[.agg #[.int .i64 k1, .int .i64 m1, .string s1, .string t1, .slice X0 p0 c0, .slice X1 p1 c1, .slice X2 p2 c2], .agg #[.int .i64 k2, .int .i64 m2, .string s2, .string t2, .slice Y0 q0 d0, .slice Y1 q1 d1, .slice Y2 q2 d2]] w' fun r w2 => r = .returned (.bool V) ∧ Below w'.heap.size w' w2) := Lib.hid (fun w' hp => by
        have hb : Below w.heap.size w w' := HB0.out.trans (Below.mono (show Below wr.heap.size wr w' from hp) HB0.out.size)
        rw [hV]
        exact HIH.out x (List.mem_append_left _ (List.mem_of_getElem? hxl)) y _ _ w' ((hcx.rep.weaken (Q := fun _ => True) (fun _ _ => trivial)).keep (Same.of_below hb)) ((hcy.rep.weaken (Q := fun _ => True) (fun _ _ => trivial)).keep (Same.of_below hb)))
      have HV := Lib.hid hV
      have HX := Lib.hid hxl
      have HY := Lib.hid hyl
      have HTk : Hid (sameL (l.take (kk + 1)) (l'.take (kk + 1)) = (sameL (l.take kk) (l'.take kk) && V)) := Lib.hid (by rw [take_succ_of hk1, take_succ_of hk2, ← hx, ← hy, sameL_snoc x y (by rw [List.length_take, List.length_take]; omega), hV])
      clear hx hy hxl hyl hx7 hy7 hcx hcy hV hbx hby
      have HAll := Lib.hid (fun w' (h : PtS wr w') => And.intro (PtS.keep h (by omega) HEar.out.c5) (And.intro (PtS.keep h hzr HEbr.out.c5) (And.intro (PtS.keep h hbx2 f0) (And.intro (PtS.keep h hbx2 f1) (And.intro (PtS.keep h hbx2 f2) (And.intro (PtS.keep h hbx2 f3) (And.intro (PtS.keep h hbx2 f4) (And.intro (PtS.keep h hbx2 f5) (And.intro (PtS.keep h hbx2 f6) (And.intro (PtS.keep h hby2 g0) (And.intro (PtS.keep h hby2 g1) (And.intro (PtS.keep h hby2 g2) (And.intro (PtS.keep h hby2 g3) (And.intro (PtS.keep h hby2 g4) (And.intro (PtS.keep h hby2 g5) (And.intro (PtS.keep h hby2 g6) h))))))))))))))))
      clear f0 f1 f2 f3 f4 f5 f6 g0 g1 g2 g3 g4 g5 g6 HEar HEbr
      cases V with
      | false =>
        have HRf : Hid (R = false) := Lib.hid (by rw [HRt.out, sameL_part kk x y HX.out HY.out HV.out.symm]; rfl)
        go_wp2_with fail
        clear a5 b5
        go_region_held3 (fun w' => w'.cell? ⟨w.heap.size, 5, none⟩ = some (.slice (some ⟨b, off, none⟩) nl cl) ∧ w'.cell? ⟨w.heap.size + 1, 5, none⟩ = some (.slice (some ⟨b', off', none⟩) nl dl) ∧ w'.cell? ⟨b, off + kk * 7, none⟩ = some (.int .i64 k1) ∧ w'.cell? ⟨b, off + kk * 7 + 1, none⟩ = some (.int .i64 m1) ∧ w'.cell? ⟨b, off + kk * 7 + 2, none⟩ = some (.string s1) ∧ w'.cell? ⟨b, off + kk * 7 + 3, none⟩ = some (.string t1) ∧ w'.cell? ⟨b, off + kk * 7 + 4, none⟩ = some (.slice X0 p0 c0) ∧ w'.cell? ⟨b, off + kk * 7 + 5, none⟩ = some (.slice X1 p1 c1) ∧ w'.cell? ⟨b, off + kk * 7 + 6, none⟩ = some (.slice X2 p2 c2) ∧ w'.cell? ⟨b', off' + kk * 7, none⟩ = some (.int .i64 k2) ∧ w'.cell? ⟨b', off' + kk * 7 + 1, none⟩ = some (.int .i64 m2) ∧ w'.cell? ⟨b', off' + kk * 7 + 2, none⟩ = some (.string s2) ∧ w'.cell? ⟨b', off' + kk * 7 + 3, none⟩ = some (.string t2) ∧ w'.cell? ⟨b', off' + kk * 7 + 4, none⟩ = some (.slice Y0 q0 d0) ∧ w'.cell? ⟨b', off' + kk * 7 + 5, none⟩ = some (.slice Y1 q1 d1) ∧ w'.cell? ⟨b', off' + kk * 7 + 6, none⟩ = some (.slice Y2 q2 d2) ∧ PtS wr w')
          ((refine HAll.out _ ?_; first | assumption | exact hs0.drew | exact .below ‹_› hs0.drew | exact .below ‹_› (.below ‹_› hs0.drew)))
          (first | (go_at_call 8; (with_reducible refine (HS.out _ (by first | assumption | exact hs0.drew | exact .below ‹_› hs0.drew | exact .below ‹_› (.below ‹_› hs0.drew))).mono ?_); rintro e w' ⟨rfl, hb⟩))
        rename_i hh
        have HBn := Lib.hid (hB.out.trans (Below.mono (show Below wr.heap.size wr _ from hh.2.2.2.2.2.2.2.2.2.2.2.2.2.2.2.2) hB.out.size))
        clear hh HAll hs0
        go_wp2_with fail
        go_ret
        exact ⟨by rw [HRf.out]; rfl, HB3.out.trans (HBn.out.mono HB3.out.size)⟩
      | true =>
        go_wp2_with fail
        clear a5 b5
        go_region_held3 (fun w' => w'.cell? ⟨w.heap.size, 5, none⟩ = some (.slice (some ⟨b, off, none⟩) nl cl) ∧ w'.cell? ⟨w.heap.size + 1, 5, none⟩ = some (.slice (some ⟨b', off', none⟩) nl dl) ∧ w'.cell? ⟨b, off + kk * 7, none⟩ = some (.int .i64 k1) ∧ w'.cell? ⟨b, off + kk * 7 + 1, none⟩ = some (.int .i64 m1) ∧ w'.cell? ⟨b, off + kk * 7 + 2, none⟩ = some (.string s1) ∧ w'.cell? ⟨b, off + kk * 7 + 3, none⟩ = some (.string t1) ∧ w'.cell? ⟨b, off + kk * 7 + 4, none⟩ = some (.slice X0 p0 c0) ∧ w'.cell? ⟨b, off + kk * 7 + 5, none⟩ = some (.slice X1 p1 c1) ∧ w'.cell? ⟨b, off + kk * 7 + 6, none⟩ = some (.slice X2 p2 c2) ∧ w'.cell? ⟨b', off' + kk * 7, none⟩ = some (.int .i64 k2) ∧ w'.cell? ⟨b', off' + kk * 7 + 1, none⟩ = some (.int .i64 m2) ∧ w'.cell? ⟨b', off' + kk * 7 + 2, none⟩ = some (.string s2) ∧ w'.cell? ⟨b', off' + kk * 7 + 3, none⟩ = some (.string t2) ∧ w'.cell? ⟨b', off' + kk * 7 + 4, none⟩ = some (.slice Y0 q0 d0) ∧ w'.cell? ⟨b', off' + kk * 7 + 5, none⟩ = some (.slice Y1 q1 d1) ∧ w'.cell? ⟨b', off' + kk * 7 + 6, none⟩ = some (.slice Y2 q2 d2) ∧ PtS wr w')
          ((refine HAll.out _ ?_; first | assumption | exact hs0.drew | exact .below ‹_› hs0.drew | exact .below ‹_› (.below ‹_› hs0.drew)))
          (first | (go_at_call 8; (with_reducible refine (HS.out _ (by first | assumption | exact hs0.drew | exact .below ‹_› hs0.drew | exact .below ‹_› (.below ‹_› hs0.drew))).mono ?_); rintro e w' ⟨rfl, hb⟩))
        rename_i hh
        have HBn := Lib.hid (hB.out.trans (Below.mono (show Below wr.heap.size wr _ from hh.2.2.2.2.2.2.2.2.2.2.2.2.2.2.2.2) hB.out.size))
        clear hh HAll hs0
        go_wp2_with fail
        go_roundw
        case rel => exact ⟨kk + 1, by omega, by go_num, HBn, Lib.hid (by rw [HTk.out, hSm.out]; rfl)⟩
        case measure => simp [intOf]; omega
    case neg =>
      obtain rfl : kk = nl := by omega
      have HSl : Hid (sameL l l' = true) := Lib.hid (by have h := hSm.out; rwa [List.take_of_length_le (by rw [← HNl.out]; exact Nat.le_refl _), List.take_of_length_le (by rw [← HNl'.out]; exact Nat.le_refl _)] at h)
      obtain ⟨w4, hw4⟩ : ∃ q, q = wr := ⟨_, rfl⟩
      subst hw4
      have hBq := hB
      clear hs0 hSm
      go_wp2_with fail
      go_loopw [6] (fun i wr => ∃ kk : Nat, kk ≤ nb ∧ i = .int .i64 (kk : Int) ∧ Hid (Below w3.heap.size w3 wr) ∧ Hid (sameA (ops.take kk) (bs.take kk) (ops'.take kk) (bs'.take kk) = true)) (fun i _ => nb - (intOf i).toNat)
      case atStart => exact ⟨0, Nat.zero_le _, rfl, hBq, Lib.hid rfl⟩
      case round =>
        clear hB
        obtain ⟨kk, hkk, rfl, hB, hSm⟩ := hrel
        have HB0 := Lib.hid (HB3.out.trans (hB.out.mono HB3.out.size))
        have hzr : w.heap.size + 1 < wr.heap.size := Nat.lt_of_lt_of_le hzw hB.out.size
        have HEar := Lib.hid (HEa3.out.kept (grown_below hB.out none) (by simp))
        have HEbr := Lib.hid (HEb3.out.kept (grown_below hB.out none) (by simp))
        have hs0 : PtS wr wr := Below.refl _ _
        have a6 := HEar.out.c6
        have b6 := HEbr.out.c6
        have j0 : (0 : Int) ≤ (kk : Int) := by omega
        by_cases hkl : kk < nb
        case pos =>
          have hk1 : kk < bs.length := by rw [← HNb.out]; exact hkl
          have hk2 : kk < bs'.length := by rw [← HNb'.out]; exact hkl
          have ho1 : kk < ops.length := by rw [HOl.out]; exact hk1
          have ho2 : kk < ops'.length := by rw [HOl'.out]; exact hk2
          have j1 : (kk : Int) < (nb : Int) := by omega
          obtain ⟨x, hx⟩ : ∃ x, x = bs[kk] := ⟨_, rfl⟩
          obtain ⟨y, hy⟩ : ∃ x, x = bs'[kk] := ⟨_, rfl⟩
          obtain ⟨u, hu⟩ : ∃ x, x = ops[kk] := ⟨_, rfl⟩
          obtain ⟨v, hv⟩ : ∃ x, x = ops'[kk] := ⟨_, rfl⟩
          have hxl : bs[kk]? = some x := by rw [hx]; exact List.getElem?_eq_getElem hk1
          have hyl : bs'[kk]? = some y := by rw [hy]; exact List.getElem?_eq_getElem hk2
          have hul : ops[kk]? = some u := by rw [hu]; exact List.getElem?_eq_getElem ho1
          have hvl : ops'[kk]? = some v := by rw [hv]; exact List.getElem?_eq_getElem ho2
          obtain ⟨b, off, rfl, _, hbx, hcc⟩ := HPa.out (List.ne_nil_of_mem (List.mem_of_getElem? hxl))
          obtain ⟨b', off', rfl, _, hby, hcc'⟩ := HPa'.out (List.ne_nil_of_mem (List.mem_of_getElem? hyl))
          obtain ⟨Xn, xc, k1, m1, s1, t1, X0, p0, c0, X1, p1, c1, X2, p2, c2, hcx⟩ := hcc kk u x hul hxl
          obtain ⟨Yn, yc, k2, m2, s2, t2, Y0, q0, d0, Y1, q1, d1, Y2, q2, d2, hcy⟩ := hcc' kk v y hvl hyl
          obtain ⟨f0, f1, f2, f3, f4, f5, f6, f7, f8⟩ := hcx.up hbx HB0.out
          obtain ⟨g0, g1, g2, g3, g4, g5, g6, g7, g8⟩ := hcy.up hby HB0.out
          have hbx2 : b < wr.heap.size := Nat.lt_of_lt_of_le hbx HB0.out.size
          have hby2 : b' < wr.heap.size := Nat.lt_of_lt_of_le hby HB0.out.size
          obtain ⟨OP, hOP⟩ : ∃ X, X = strB u.1 := ⟨_, rfl⟩
          obtain ⟨OQ, hOQ⟩ : ∃ X, X = strB v.1 := ⟨_, rfl⟩
          rw [← hOP] at f0
          rw [← hOQ] at g0
          obtain ⟨on1, hon1⟩ : ∃ q, q = u.2.length := ⟨_, rfl⟩
          obtain ⟨on2, hon2⟩ : ∃ q, q = v.2.length := ⟨_, rfl⟩
          rw [← hon1] at f1
          rw [← hon2] at g1
          have HNq : Hid (∀ w', Qt wr w' → Calls Tryz.prog 25 #[.slice Xn on1 xc, .slice Yn on2 yc] w' fun e w2 => e = .returned (.bool (decide (u.2 = v.2))) ∧ Qt w' w2) := Lib.hid (fun w' hq => by
            have hb : Below w.heap.size w w' := HB0.out.trans (hq.below.mono HB0.out.size)
            rw [hon1, hon2]
            exact sameNames_any _ _ Xn Yn xc yc u.2 v.2 w' (hcx.names.keep (Same.of_below hb)) (hcy.names.keep (Same.of_below hb)) ⟨Nat.le_trans hcx.len.1 hcx.len.2, Nat.le_trans hcy.len.1 hcy.len.2⟩)
          have HNp : Hid (∀ w', PtS wr w' → Calls Tryz.prog 25 #[.slice Xn on1 xc, .slice Yn on2 yc] w' fun e w2 => e = .returned (.bool (decide (u.2 = v.2))) ∧ Below w'.heap.size w' w2) := Lib.hid (fun w' hp => by
            have hb : Below w.heap.size w w' := HB0.out.trans (Below.mono (show Below wr.heap.size wr w' from hp) HB0.out.size)
            rw [hon1, hon2]
            exact (sameNames_any _ _ Xn Yn xc yc u.2 v.2 w' (hcx.names.keep (Same.of_below hb)) (hcy.names.keep (Same.of_below hb)) ⟨Nat.le_trans hcx.len.1 hcx.len.2, Nat.le_trans hcy.len.1 hcy.len.2⟩).mono fun e w2 h => ⟨h.1, h.2.below⟩)
          obtain ⟨V, hV⟩ : ∃ V, V = sameE x y := ⟨_, rfl⟩
          have HS : Hid (∀ w', PtS wr w' → Calls Tryz.prog 8 #[.agg #[.int .i64 k1, .int .i64 m1, .string s1, .string t1, .slice X0 p0 c0, .slice X1 p1 c1, .slice X2 p2 c2], .agg #[.int .i64 k2, .int .i64 m2, .string s2, .string t2, .slice Y0 q0 d0, .slice Y1 q1 d1, .slice Y2 q2 d2]] w' fun r w2 => r = .returned (.bool V) ∧ Below w'.heap.size w' w2) := Lib.hid (fun w' hp => by
            have hb : Below w.heap.size w w' := HB0.out.trans (Below.mono (show Below wr.heap.size wr w' from hp) HB0.out.size)
            rw [hV]
            exact HIH.out x (List.mem_append_right _ (List.mem_of_getElem? hxl)) y _ _ w' ((hcx.rep.weaken (Q := fun _ => True) (fun _ _ => trivial)).keep (Same.of_below hb)) ((hcy.rep.weaken (Q := fun _ => True) (fun _ _ => trivial)).keep (Same.of_below hb)))
          have HPart : Hid ((decide (u = v) && V) = false → R = false) := Lib.hid (fun h => by rw [HRt.out, sameA_part kk u v x y hul hvl hxl hyl (by rw [← hV]; exact h), Bool.and_false])
          have HTk : Hid (sameA (ops.take (kk + 1)) (bs.take (kk + 1)) (ops'.take (kk + 1)) (bs'.take (kk + 1)) = (sameA (ops.take kk) (bs.take kk) (ops'.take kk) (bs'.take kk) && (decide (u = v) && V))) := Lib.hid (by rw [take_succ_of hk1, take_succ_of hk2, take_succ_of ho1, take_succ_of ho2, ← hx, ← hy, ← hu, ← hv, sameA_snoc u v x y (by rw [List.length_take, List.length_take]; omega) (by rw [List.length_take, List.length_take]; omega) (by rw [List.length_take, List.length_take]; omega), hV])
          clear hx hy hu hv hxl hyl hul hvl hcc hcc' hcx hcy hV hbx hby
          by_cases e1 : u.1 = v.1
          case neg =>
            have HRf : Hid (R = false) := Lib.hid (HPart.out (by rw [decide_eq_false (fun h => e1 (by rw [h]))]; rfl))
            have f9 : (OP.toList == OQ.toList) = false := by rw [hOP, hOQ, ByteArray.toList_eq, ByteArray.toList_eq, data_strB, data_strB]; exact beq_eq_false_iff_ne.2 e1
            have g9 : (OP.toList != OQ.toList) = true := by simp only [bne, f9]; rfl
            clear e1 hOP hOQ hon1 hon2 hs0
            go_wp2_with fail
            go_quiet (fail)
            go_wp2_with fail
            go_ret
            exact ⟨by rw [HRf.out]; rfl, HB3.out.trans ((hB.out.trans ((Qt.below ⟨nq, rfl⟩).mono hB.out.size)).mono HB3.out.size)⟩
          obtain rfl : OQ = OP := by rw [hOP, hOQ, e1]
          by_cases e2 : u.2 = v.2
          case neg =>
            have HRf : Hid (R = false) := Lib.hid (HPart.out (by rw [decide_eq_false (fun h => e2 (by rw [h]))]; rfl))
            rw [show decide (u.2 = v.2) = false from decide_eq_false e2] at HNq
            clear e1 e2 hOP hOQ hon1 hon2 hs0 HNp
            go_wp2_with fail
            go_quiet ((go_at_call 25; exact Calls.quiet_of (HNq.out _ ⟨_, rfl⟩)))
            go_wp2_with fail
            go_ret
            exact ⟨by rw [HRf.out]; rfl, HB3.out.trans ((hB.out.trans ((Qt.below ⟨nq, rfl⟩).mono hB.out.size)).mono HB3.out.size)⟩
          have HD : Hid (decide (u = v) = true) := Lib.hid (decide_eq_true (Prod.ext e1 e2))
          rw [show decide (u.2 = v.2) = true from decide_eq_true e2] at HNp
          have HAll := Lib.hid (fun w' (h : PtS wr w') => And.intro (PtS.keep h (by omega) HEar.out.c6) (And.intro (PtS.keep h hzr HEbr.out.c6) (And.intro (PtS.keep h hbx2 f0) (And.intro (PtS.keep h hbx2 f1) (And.intro (PtS.keep h hbx2 f2) (And.intro (PtS.keep h hbx2 f3) (And.intro (PtS.keep h hbx2 f4) (And.intro (PtS.keep h hbx2 f5) (And.intro (PtS.keep h hbx2 f6) (And.intro (PtS.keep h hbx2 f7) (And.intro (PtS.keep h hbx2 f8) (And.intro (PtS.keep h hby2 g0) (And.intro (PtS.keep h hby2 g1) (And.intro (PtS.keep h hby2 g2) (And.intro (PtS.keep h hby2 g3) (And.intro (PtS.keep h hby2 g4) (And.intro (PtS.keep h hby2 g5) (And.intro (PtS.keep h hby2 g6) (And.intro (PtS.keep h hby2 g7) (And.intro (PtS.keep h hby2 g8) h))))))))))))))))))))
          clear f0 f1 f2 f3 f4 f5 f6 f7 f8 g0 g1 g2 g3 g4 g5 g6 g7 g8 HEar HEbr e1 e2 hOP hOQ hon1 hon2 HNq
          cases V with
          | false =>
            have HRf : Hid (R = false) := Lib.hid (HPart.out (by rw [HD.out]; rfl))
            go_wp2_with fail
            clear a6 b6
            go_region_held3 (fun w' => w'.cell? ⟨w.heap.size, 6, none⟩ = some (.slice (some ⟨b, off, none⟩) nb ca) ∧ w'.cell? ⟨w.heap.size + 1, 6, none⟩ = some (.slice (some ⟨b', off', none⟩) nb da) ∧ w'.cell? ⟨b, off + kk * 9, none⟩ = some (.string OQ) ∧ w'.cell? ⟨b, off + kk * 9 + 1, none⟩ = some (.slice Xn on1 xc) ∧ w'.cell? ⟨b, off + kk * 9 + 2, none⟩ = some (.int .i64 k1) ∧ w'.cell? ⟨b, off + kk * 9 + 3, none⟩ = some (.int .i64 m1) ∧ w'.cell? ⟨b, off + kk * 9 + 4, none⟩ = some (.string s1) ∧ w'.cell? ⟨b, off + kk * 9 + 5, none⟩ = some (.string t1) ∧ w'.cell? ⟨b, off + kk * 9 + 6, none⟩ = some (.slice X0 p0 c0) ∧ w'.cell? ⟨b, off + kk * 9 + 7, none⟩ = some (.slice X1 p1 c1) ∧ w'.cell? ⟨b, off + kk * 9 + 8, none⟩ = some (.slice X2 p2 c2) ∧ w'.cell? ⟨b', off' + kk * 9, none⟩ = some (.string OQ) ∧ w'.cell? ⟨b', off' + kk * 9 + 1, none⟩ = some (.slice Yn on2 yc) ∧ w'.cell? ⟨b', off' + kk * 9 + 2, none⟩ = some (.int .i64 k2) ∧ w'.cell? ⟨b', off' + kk * 9 + 3, none⟩ = some (.int .i64 m2) ∧ w'.cell? ⟨b', off' + kk * 9 + 4, none⟩ = some (.string s2) ∧ w'.cell? ⟨b', off' + kk * 9 + 5, none⟩ = some (.string t2) ∧ w'.cell? ⟨b', off' + kk * 9 + 6, none⟩ = some (.slice Y0 q0 d0) ∧ w'.cell? ⟨b', off' + kk * 9 + 7, none⟩ = some (.slice Y1 q1 d1) ∧ w'.cell? ⟨b', off' + kk * 9 + 8, none⟩ = some (.slice Y2 q2 d2) ∧ PtS wr w')
              ((refine HAll.out _ ?_; first | assumption | exact hs0.drew | exact .below ‹_› hs0.drew | exact .below ‹_› (.below ‹_› hs0.drew)))
              (first | (go_at_call 25; (with_reducible refine (HNp.out _ (by first | assumption | exact hs0.drew | exact .below ‹_› hs0.drew | exact .below ‹_› (.below ‹_› hs0.drew))).mono ?_); rintro e w' ⟨rfl, hb⟩) | (go_at_call 8; (with_reducible refine (HS.out _ (by first | assumption | exact hs0.drew | exact .below ‹_› hs0.drew | exact .below ‹_› (.below ‹_› hs0.drew))).mono ?_); rintro e w' ⟨rfl, hb⟩))
            rename_i hh
            have HBn := Lib.hid (hB.out.trans (Below.mono (show Below wr.heap.size wr _ from hh.2.2.2.2.2.2.2.2.2.2.2.2.2.2.2.2.2.2.2.2) hB.out.size))
            clear hh HAll hs0
            go_wp2_with fail
            go_ret
            exact ⟨by rw [HRf.out]; rfl, HB3.out.trans (HBn.out.mono HB3.out.size)⟩
          | true =>
            go_wp2_with fail
            clear a6 b6
            go_region_held3 (fun w' => w'.cell? ⟨w.heap.size, 6, none⟩ = some (.slice (some ⟨b, off, none⟩) nb ca) ∧ w'.cell? ⟨w.heap.size + 1, 6, none⟩ = some (.slice (some ⟨b', off', none⟩) nb da) ∧ w'.cell? ⟨b, off + kk * 9, none⟩ = some (.string OQ) ∧ w'.cell? ⟨b, off + kk * 9 + 1, none⟩ = some (.slice Xn on1 xc) ∧ w'.cell? ⟨b, off + kk * 9 + 2, none⟩ = some (.int .i64 k1) ∧ w'.cell? ⟨b, off + kk * 9 + 3, none⟩ = some (.int .i64 m1) ∧ w'.cell? ⟨b, off + kk * 9 + 4, none⟩ = some (.string s1) ∧ w'.cell? ⟨b, off + kk * 9 + 5, none⟩ = some (.string t1) ∧ w'.cell? ⟨b, off + kk * 9 + 6, none⟩ = some (.slice X0 p0 c0) ∧ w'.cell? ⟨b, off + kk * 9 + 7, none⟩ = some (.slice X1 p1 c1) ∧ w'.cell? ⟨b, off + kk * 9 + 8, none⟩ = some (.slice X2 p2 c2) ∧ w'.cell? ⟨b', off' + kk * 9, none⟩ = some (.string OQ) ∧ w'.cell? ⟨b', off' + kk * 9 + 1, none⟩ = some (.slice Yn on2 yc) ∧ w'.cell? ⟨b', off' + kk * 9 + 2, none⟩ = some (.int .i64 k2) ∧ w'.cell? ⟨b', off' + kk * 9 + 3, none⟩ = some (.int .i64 m2) ∧ w'.cell? ⟨b', off' + kk * 9 + 4, none⟩ = some (.string s2) ∧ w'.cell? ⟨b', off' + kk * 9 + 5, none⟩ = some (.string t2) ∧ w'.cell? ⟨b', off' + kk * 9 + 6, none⟩ = some (.slice Y0 q0 d0) ∧ w'.cell? ⟨b', off' + kk * 9 + 7, none⟩ = some (.slice Y1 q1 d1) ∧ w'.cell? ⟨b', off' + kk * 9 + 8, none⟩ = some (.slice Y2 q2 d2) ∧ PtS wr w')
              ((refine HAll.out _ ?_; first | assumption | exact hs0.drew | exact .below ‹_› hs0.drew | exact .below ‹_› (.below ‹_› hs0.drew)))
              (first | (go_at_call 25; (with_reducible refine (HNp.out _ (by first | assumption | exact hs0.drew | exact .below ‹_› hs0.drew | exact .below ‹_› (.below ‹_› hs0.drew))).mono ?_); rintro e w' ⟨rfl, hb⟩) | (go_at_call 8; (with_reducible refine (HS.out _ (by first | assumption | exact hs0.drew | exact .below ‹_› hs0.drew | exact .below ‹_› (.below ‹_› hs0.drew))).mono ?_); rintro e w' ⟨rfl, hb⟩))
            rename_i hh
            have HBn := Lib.hid (hB.out.trans (Below.mono (show Below wr.heap.size wr _ from hh.2.2.2.2.2.2.2.2.2.2.2.2.2.2.2.2.2.2.2.2) hB.out.size))
            clear hh HAll hs0
            go_wp2_with fail
            go_roundw
            case rel => exact ⟨kk + 1, by omega, by go_num, HBn, Lib.hid (by rw [HTk.out, hSm.out, HD.out]; rfl)⟩
            case measure => simp [intOf]; omega
        case neg =>
          obtain rfl : kk = nb := by omega
          have HRr : Hid (R = true) := Lib.hid (by
            have h := hSm.out
            rw [List.take_of_length_le (by rw [HOl.out, ← HNb.out]; exact Nat.le_refl _), List.take_of_length_le (by rw [← HNb.out]; exact Nat.le_refl _), List.take_of_length_le (by rw [HOl'.out, ← HNb'.out]; exact Nat.le_refl _), List.take_of_length_le (by rw [← HNb'.out]; exact Nat.le_refl _)] at h
            rw [HRt.out, HSl.out, h]; rfl)
          go_wp2_with fail
          go_ret
          exact ⟨by rw [HRr.out]; rfl, HB0.out⟩
end Go.Proofs.YtbmicnajedeenaaGreatDoor
/- The text and the size of a program's nested Let. -/
namespace Go.Proofs.YtbmicnajedeenaaGreatDoor
open Go.RowKit

theorem lv_0 (e : Ex) : (0 : Int) ≤ e.lv := by
  cases e with
  | mk k n s t ns l ops bs =>
    show (0 : Int) ≤ lvO k s
    unfold lvO opLv
    repeat' split
    all_goals (try simp)
theorem text_let (a : Txt) (b m : Ex) : textE (.mk 6 0 [] [] [a] [b, m] [] []) = [108, 101, 116, 32] ++ a ++ [32, 61, 32] ++ textE b ++ [32, 105, 110, 32] ++ textE m := by
  have h1 : atP 0 b.lp = pcs b := if_pos (lv_0 b)
  have h2 : atP 0 m.lp = pcs m := if_pos (lv_0 m)
  have h : pcs (.mk 6 0 [] [] [a] [b, m] [] []) = openP [108, 101, 116] [a] [b.lp, m.lp] [[32, 61, 32], [32, 105, 110, 32]] := by rw [pcs_mk]; rfl
  unfold textE
  rw [h]
  unfold openP spacedP
  simp [behindP, h1, h2]
/-- what stands before Main in a program's text -/
def preP : List Df → Txt
  | [] => []
  | d :: r => [108, 101, 116, 32] ++ d.1 ++ [32, 61, 32] ++ textE d.2 ++ [32, 105, 110, 32] ++ preP r
def szP (L : List Df) : Nat := (L.map fun d => (nodesE 1 d.2).length + 1).sum
theorem text_nest : ∀ (L : List Df) (m : Ex), textE (nestP L m) = preP L ++ textE m
  | [], m => rfl
  | d :: r, m => by rw [nestP, text_let, text_nest r m, preP]; simp only [List.append_assoc]
theorem size_nest : ∀ (L : List Df) (m : Ex), (nodesE 1 (nestP L m)).length = szP L + (nodesE 1 m).length
  | [], m => by simp [nestP, szP]
  | d :: r, m => by
    have h1 := size_nest r m
    have h2 := size_parts (nestP (d :: r) m)
    have h3 : (nestP (d :: r) m).parts = [d.2, nestP r m] := by simp [nestP, Ex.parts, Ex.l, Ex.bs]
    rw [h3] at h2
    simp only [List.map_cons, List.map_nil, List.sum_cons, List.sum_nil] at h2
    unfold szP at h1 ⊢
    simp only [List.map_cons, List.sum_cons]
    omega
theorem preP_snoc (d : Df) : ∀ (L : List Df), preP (L ++ [d]) = preP L ++ ([108, 101, 116, 32] ++ d.1 ++ [32, 61, 32] ++ textE d.2 ++ [32, 105, 110, 32])
  | [] => by simp [preP]
  | x :: r => by rw [List.cons_append, preP, preP, preP_snoc d r]; simp only [List.append_assoc]
theorem szP_snoc (d : Df) (L : List Df) : szP (L ++ [d]) = szP L + ((nodesE 1 d.2).length + 1) := by unfold szP; rw [List.map_append, List.sum_append]; simp
theorem preP_app : ∀ (a b : List Df), preP (a ++ b) = preP a ++ preP b
  | [], b => rfl
  | x :: r, b => by rw [List.cons_append, preP, preP, preP_app r b]; simp only [List.append_assoc]
theorem szP_take (L : List Df) (k : Nat) : szP (L.take k) ≤ szP L := by
  have h : szP (L.take k ++ L.drop k) = szP (L.take k) + szP (L.drop k) := by unfold szP; rw [List.map_append, List.sum_append]
  rw [List.take_append_drop] at h; omega
theorem preP_take (L : List Df) (k : Nat) : (preP (L.take k)).length ≤ (preP L).length := by
  have h := congrArg List.length (preP_app (L.take k) (L.drop k))
  rw [List.take_append_drop, List.length_append] at h; omega
/-- every definition of an accepted nested Let is accepted, and so is Main -/
theorem nest_ok : ∀ (L : List Df) (m : Ex), (msd chkN (nestP L m)).2.2 = 0 → (∀ d ∈ L, (msd chkN d.2).2.2 = 0) ∧ (msd chkN m).2.2 = 0
  | [], m, h => ⟨fun d hd => by simp at hd, h⟩
  | d :: r, m, h => by
    have h3 : (nestP (d :: r) m).parts = [d.2, nestP r m] := by simp [nestP, Ex.parts, Ex.l, Ex.bs]
    have h1 := part_ok h (x := d.2) (by rw [h3]; simp)
    have h2 := nest_ok r m (part_ok h (x := nestP r m) (by rw [h3]; simp))
    refine ⟨fun y hy => ?_, h2.2⟩
    rcases List.mem_cons.1 hy with rfl | hy
    · exact h1
    · exact h2.1 y hy
theorem text_le {e : Ex} (h : (msd chkN e).2.2 = 0) : (textE e).length ≤ 3000000 := by
  obtain ⟨wf, hsz, _⟩ := msd_iff.1 h
  have h1 := tot_pcs e wf 1
  have h2 := flatten_len (pcs e)
  unfold textE
  omega
theorem nest_len : ∀ (L : List Df) (m : Ex), L.length ≤ hE (nestP L m)
  | [], m => Nat.zero_le _
  | d :: r, m => by
    have := nest_len r m
    simp only [nestP, hE, hL, List.length_cons]
    omega
/-- a round's sum of texts -/
theorem pre_str (L : List Df) (d : Df) : strB (preP (L ++ [d])) = strB (preP L) ++ ⟨#[108, 101, 116, 32]⟩ ++ strB d.1 ++ ⟨#[32, 61, 32]⟩ ++ strB (textE d.2) ++ ⟨#[32, 105, 110, 32]⟩ := by
  rw [preP_snoc]
  simp only [← List.append_assoc, strB_cat]
  rfl
theorem pre_len (L : List Df) (d : Df) : (preP (L ++ [d])).length = (preP L).length + 4 + d.1.length + 3 + (textE d.2).length + 4 := by
  rw [preP_snoc]
  simp only [List.length_append, List.length_cons, List.length_nil]
  omega
theorem ck_zero {p : Pg} (h : ckPg p = 0) : (msd chkN (nestP p.dfs p.m)).2.2 = 0 := by
  unfold ckPg at h
  split at h
  · omega
  · split at h
    · split at h
      · exact h
      · exact absurd h ‹_›
    · exact absurd h ‹_›
end Go.Proofs.YtbmicnajedeenaaGreatDoor
/- SyntaxWhole: the nested Let of a program. -/
namespace Go.Proofs.YtbmicnajedeenaaGreatDoor
open Go.RowKit

theorem PtS.kp {w w' : World} (h : PtS w w') {b o : Nat} (hb : b < w.heap.size) {v : Value} (hv : w.cell? ⟨b, o, none⟩ = some v) : w'.cell? ⟨b, o, none⟩ = some v :=
  (Below.cell (p := ⟨b, o, none⟩) (show Below w.heap.size w w' from h) hb).trans hv

set_option maxRecDepth 100000 in
set_option maxHeartbeats 8000000 in
theorem whole_law (p : Pg) (A : Option Addr) (a ca : Nat) (B : Option Addr) (b cb : Nat) (C : Option Addr) (c cc : Nat) (k n : Int) (s t : ByteArray) (A0 : Option Addr) (n0 m0 : Nat) (A1 : Option Addr) (n1 m1 : Nat) (A2 : Option Addr) (n2 m2 : Nat) (w : World) (hp : RepG (fun _ => True) w p [.slice A a ca, .slice B b cb, .slice C c cc, .int .i64 k, .int .i64 n, .string s, .string t, .slice A0 n0 m0, .slice A1 n1 m1, .slice A2 n2 m2]) (hEn : EnvS w) (hut : UsesT w) :
    Calls Tryz.prog 3 #[.agg #[.slice A a ca, .slice B b cb, .slice C c cc, .int .i64 k, .int .i64 n, .string s, .string t, .slice A0 n0 m0, .slice A1 n1 m1, .slice A2 n2 m2]] w fun r w' => r = .returned (.bool true) ∧ Below w.heap.size w w' := by
  have HEn := Lib.hid hEn
  have HUt := Lib.hid hut
  have HRp := Lib.hid hp
  obtain ⟨W1, hW1⟩ : ∃ W1, w.alloc (.cells #[.slice A a ca, .slice B b cb, .slice C c cc, .int .i64 k, .int .i64 n, .string s, .string t, .slice A0 n0 m0, .slice A1 n1 m1, .slice A2 n2 m2] 32) = W1 := ⟨_, rfl⟩
  have HB1 : Hid (Below w.heap.size w W1) := Lib.hid (by rw [← hW1]; exact (Below.refl _ _).alloc (Nat.le_refl _) _)
  have hx : W1.heap[w.heap.size]? = some (.cells #[.slice A a ca, .slice B b cb, .slice C c cc, .int .i64 k, .int .i64 n, .string s, .string t, .slice A0 n0 m0, .slice A1 n1 m1, .slice A2 n2 m2] 32 (0, 0)) := by rw [← hW1]; exact heap_alloc_new w _
  have hxl : w.heap.size < W1.heap.size := (Array.getElem?_eq_some_iff.1 hx).1
  have HX : Hid (∀ wr, Below W1.heap.size W1 wr → wr.heap[w.heap.size]? = some (.cells #[.slice A a ca, .slice B b cb, .slice C c cc, .int .i64 k, .int .i64 n, .string s, .string t, .slice A0 n0 m0, .slice A1 n1 m1, .slice A2 n2 m2] 32 (0, 0))) := Lib.hid (fun wr hb => (hb.block _ hxl).trans hx)
  have HW : Hid (∀ wr, Below W1.heap.size W1 wr → Below w.heap.size w wr) := Lib.hid (fun wr hb => HB1.out.trans (hb.mono HB1.out.size))
  have HR1 : Hid (Below W1.heap.size W1 W1) := Lib.hid (Below.refl _ _)
  have HG := Lib.hid (GreatProgram_any p A a ca B b cb C c cc k n s t A0 n0 m0 A1 n1 m1 A2 n2 m2 W1 (HRp.out.keepC (KC.of_same HB1.out)))
  obtain ⟨G, hG⟩ : ∃ G, G = greatPg p := ⟨_, rfl⟩
  rw [← hG] at HG
  have x0 := cell_of_row W1 w.heap.size 0 _ _ (0, 0) (HX.out _ HR1.out)
  have x1 := cell_of_row W1 w.heap.size 1 _ _ (0, 0) (HX.out _ HR1.out)
  have x2 := cell_of_row W1 w.heap.size 2 _ _ (0, 0) (HX.out _ HR1.out)
  have x3 := cell_of_row W1 w.heap.size 3 _ _ (0, 0) (HX.out _ HR1.out)
  have x4 := cell_of_row W1 w.heap.size 4 _ _ (0, 0) (HX.out _ HR1.out)
  have x5 := cell_of_row W1 w.heap.size 5 _ _ (0, 0) (HX.out _ HR1.out)
  have x6 := cell_of_row W1 w.heap.size 6 _ _ (0, 0) (HX.out _ HR1.out)
  have x7 := cell_of_row W1 w.heap.size 7 _ _ (0, 0) (HX.out _ HR1.out)
  have x8 := cell_of_row W1 w.heap.size 8 _ _ (0, 0) (HX.out _ HR1.out)
  have x9 := cell_of_row W1 w.heap.size 9 _ _ (0, 0) (HX.out _ HR1.out)
  simp only [List.getElem?_toArray, List.getElem?_cons_zero, List.getElem?_cons_succ] at x0 x1 x2 x3 x4 x5 x6 x7 x8 x9
  clear hp hEn hut hx
  cases G with
  | true =>
    clear hG
    go_enter Tryz.func3, Tryz.ntmps3
    go_wp2_with fail
    clear hW1
    refine HG.out.mono ?_
    rintro r w2 ⟨rfl, hb⟩
    have HB2 := Lib.hid (HB1.out.trans (hb.mono HB1.out.size))
    clear hb x0 x1 x2 x3 x4 x5 x6 x7 x8 x9
    go_wp2_with fail
    refine (shows_any w2 (HEn.out.below HB2.out)).mono ?_
    rintro r w3 ⟨rfl, hb⟩
    have HB3 := Lib.hid (HB2.out.trans (hb.mono HB2.out.size))
    clear hb
    go_wp2_with fail
    go_ret
    exact ⟨rfl, HB3.out⟩
  | false =>
    have hO := pg_ok HRp.out hG.symm
    have HWh := Lib.hid (fun w' (hb : Below w.heap.size w w') => Whole_any p hO A a ca B b cb C c cc k n s t A0 n0 m0 A1 n1 m1 A2 n2 m2 w' (HRp.out.keepC (KC.of_same hb)) (HEn.out.below hb).2.1 (HUt.out.below hb))
    have HCk := Lib.hid (fun w' (hb : Below w.heap.size w w') => CheckProgram_any p hO.h A a ca B b cb C c cc k n s t A0 n0 m0 A1 n1 m1 A2 n2 m2 w' (HRp.out.keepC (KC.of_same hb)) (HEn.out.below hb).2.1 (HUt.out.below hb))
    have HO := Lib.hid hO
    clear hG hO
    go_enter Tryz.func3, Tryz.ntmps3
    go_wp2_with fail
    clear hW1
    refine HG.out.mono ?_
    rintro r w2 ⟨rfl, hb⟩
    have HB2 := Lib.hid hb
    clear hb x0 x1 x2 x3 x4 x5 x6 x7 x8 x9
    have x0 := cell_of_row w2 w.heap.size 0 _ _ (0, 0) (HX.out _ HB2.out)
    have x1 := cell_of_row w2 w.heap.size 1 _ _ (0, 0) (HX.out _ HB2.out)
    have x2 := cell_of_row w2 w.heap.size 2 _ _ (0, 0) (HX.out _ HB2.out)
    have x3 := cell_of_row w2 w.heap.size 3 _ _ (0, 0) (HX.out _ HB2.out)
    have x4 := cell_of_row w2 w.heap.size 4 _ _ (0, 0) (HX.out _ HB2.out)
    have x5 := cell_of_row w2 w.heap.size 5 _ _ (0, 0) (HX.out _ HB2.out)
    have x6 := cell_of_row w2 w.heap.size 6 _ _ (0, 0) (HX.out _ HB2.out)
    have x7 := cell_of_row w2 w.heap.size 7 _ _ (0, 0) (HX.out _ HB2.out)
    have x8 := cell_of_row w2 w.heap.size 8 _ _ (0, 0) (HX.out _ HB2.out)
    have x9 := cell_of_row w2 w.heap.size 9 _ _ (0, 0) (HX.out _ HB2.out)
    simp only [List.getElem?_toArray, List.getElem?_cons_zero, List.getElem?_cons_succ] at x0 x1 x2 x3 x4 x5 x6 x7 x8 x9
    go_wp2_with fail
    obtain ⟨V, hV⟩ : ∃ V, V = ckPg p := ⟨_, rfl⟩
    unfold WholeTo at HWh
    rw [← hV] at HWh HCk
    refine (HWh.out w2 (HW.out _ HB2.out)).mono ?_
    rintro r w3 ⟨hb, k3, n3, s3, t3, D0, du0, y0, D1, du1, y1, D2, du2, y2, rfl, hr⟩
    have HB3 := Lib.hid (HB2.out.trans (hb.mono (HB2.out.size)))
    have HR3 := Lib.hid hr
    clear hb hr x0 x1 x2 x3 x4 x5 x6 x7 x8 x9
    obtain ⟨W4, hW4⟩ : ∃ W4, w3.alloc (.cells #[.int .i64 k3, .int .i64 n3, .string s3, .string t3, .slice D0 du0 y0, .slice D1 du1 y1, .slice D2 du2 y2] 30) = W4 := ⟨_, rfl⟩
    have hg4 : Below w3.heap.size w3 W4 := by rw [← hW4]; exact (Below.refl _ _).alloc (Nat.le_refl _) _
    have HB4 := Lib.hid (HB3.out.trans (hg4.mono HB3.out.size))
    have HE4 : Hid (EB W4 w3.heap.size (.int .i64 k3) (.int .i64 n3) (.string s3) (.string t3) (.slice D0 du0 y0) (.slice D1 du1 y1) (.slice D2 du2 y2)) := Lib.hid (by rw [← hW4]; exact EB.new _ _ _ _ _ _ _ _)
    have HR4 := Lib.hid (HR3.out.keepC (KC.of_same hg4))
    clear hg4 HR3
    have x0 := cell_of_row W4 w.heap.size 0 _ _ (0, 0) (HX.out _ HB4.out)
    have x1 := cell_of_row W4 w.heap.size 1 _ _ (0, 0) (HX.out _ HB4.out)
    have x2 := cell_of_row W4 w.heap.size 2 _ _ (0, 0) (HX.out _ HB4.out)
    have x3 := cell_of_row W4 w.heap.size 3 _ _ (0, 0) (HX.out _ HB4.out)
    have x4 := cell_of_row W4 w.heap.size 4 _ _ (0, 0) (HX.out _ HB4.out)
    have x5 := cell_of_row W4 w.heap.size 5 _ _ (0, 0) (HX.out _ HB4.out)
    have x6 := cell_of_row W4 w.heap.size 6 _ _ (0, 0) (HX.out _ HB4.out)
    have x7 := cell_of_row W4 w.heap.size 7 _ _ (0, 0) (HX.out _ HB4.out)
    have x8 := cell_of_row W4 w.heap.size 8 _ _ (0, 0) (HX.out _ HB4.out)
    have x9 := cell_of_row W4 w.heap.size 9 _ _ (0, 0) (HX.out _ HB4.out)
    simp only [List.getElem?_toArray, List.getElem?_cons_zero, List.getElem?_cons_succ] at x0 x1 x2 x3 x4 x5 x6 x7 x8 x9
    have e0 := HE4.out.c0
    have e1 := HE4.out.c1
    have e2 := HE4.out.c2
    have e3 := HE4.out.c3
    have e4 := HE4.out.c4
    have e5 := HE4.out.c5
    have e6 := HE4.out.c6
    by_cases hv : V = 0
    · have hck := ck_zero (hV.symm.trans hv)
      obtain ⟨hds, hmn⟩ := nest_ok _ _ hck
      have htl := text_le hck
      have hszv := msd_val hck
      have hnb := (msd_iff.1 hck).2.1
      rw [text_nest, List.length_append] at htl
      rw [size_nest] at hnb
      have hnl := nest_len p.dfs p.m
      have hhE := HO.out.h.hn
      have HShE : Hid (∀ w', Below W4.heap.size W4 w' → Calls Tryz.prog 9 #[.agg #[.int .i64 k3, .int .i64 n3, .string s3, .string t3, .slice D0 du0 y0, .slice D1 du1 y1, .slice D2 du2 y2]] w' fun r w2 => r = .returned (.tuple #[.string (strB (preP p.dfs ++ textE p.m)), .int .i64 0]) ∧ Below w'.heap.size w' w2) := Lib.hid (fun w' hb => by
        have hr := HR4.out.keepC (KC.of_same hb)
        rw [if_pos hv] at hr
        have hbw := HW.out _ (HB4.out.trans (hb.mono HB4.out.size))
        have := Show_any _ _ k3 n3 s3 t3 D0 du0 y0 D1 du1 y1 D2 du2 y2 w' hr hhE (HEn.out.below hbw).2.1 (HEn.out.below hbw).2.2
        rw [show_ok hck, text_nest] at this; exact this)
      have HSzE : Hid (∀ w', Below W4.heap.size W4 w' → Calls Tryz.prog 10 #[.agg #[.int .i64 k3, .int .i64 n3, .string s3, .string t3, .slice D0 du0 y0, .slice D1 du1 y1, .slice D2 du2 y2]] w' fun r w2 => r = .returned (.int .i64 ((szP p.dfs + (nodesE 1 p.m).length : Nat) : Int)) ∧ Below w'.heap.size w' w2) := Lib.hid (fun w' hb => by
        have hr := HR4.out.keepC (KC.of_same hb)
        rw [if_pos hv] at hr
        have hbw := HW.out _ (HB4.out.trans (hb.mono HB4.out.size))
        have := Size_any chkN (Lib.hid chkN_says) _ _ k3 n3 s3 t3 D0 du0 y0 D1 du1 y1 D2 du2 y2 w' hr hhE (HEn.out.below hbw).2.1
        rw [hszv, size_nest] at this; exact this)
      have HCkE : Hid (∀ w', Below W4.heap.size W4 w' → Calls Tryz.prog 11 #[.agg #[.int .i64 k3, .int .i64 n3, .string s3, .string t3, .slice D0 du0 y0, .slice D1 du1 y1, .slice D2 du2 y2]] w' fun r w2 => r = .returned (.int .i64 0) ∧ Below w'.heap.size w' w2) := Lib.hid (fun w' hb => by
        have hr := HR4.out.keepC (KC.of_same hb)
        rw [if_pos hv] at hr
        have hbw := HW.out _ (HB4.out.trans (hb.mono HB4.out.size))
        have := Check_any chkN (Lib.hid chkN_says) _ _ k3 n3 s3 t3 D0 du0 y0 D1 du1 y1 D2 du2 y2 w' hr hhE (HEn.out.below hbw).2.1
        rw [hszv] at this; exact this)
      obtain ⟨pds, pfs, L, pm⟩ := p
      obtain ⟨_, _, _, _, C', c', c7, e, ⟨_, _, hcap⟩, _, _, hro, hm⟩ := HRp.out
      simp only [List.cons.injEq, Value.slice.injEq] at e
      obtain ⟨_, _, ⟨rfl, rfl, rfl⟩, rfl⟩ := e
      dsimp only at *
      have HDf := Lib.hid hro
      have HM := Lib.hid hm
      have HhM : Hid (hE pm ≤ 900000) := Lib.hid (Nat.le_trans HO.out.hm (by omega))
      have HShM : Hid (∀ w', Below w.heap.size w w' → Calls Tryz.prog 9 #[.agg #[.int .i64 k, .int .i64 n, .string s, .string t, .slice A0 n0 m0, .slice A1 n1 m1, .slice A2 n2 m2]] w' fun r w2 => r = .returned (.tuple #[.string (strB (textE pm)), .int .i64 0]) ∧ Below w'.heap.size w' w2) := Lib.hid (fun w' hb => by
        have := Show_any _ _ k n s t A0 n0 m0 A1 n1 m1 A2 n2 m2 w' (HM.out.keepC (KC.of_same hb)) HhM.out (HEn.out.below hb).2.1 (HEn.out.below hb).2.2
        rw [show_ok hmn] at this; exact this)
      have HSzM : Hid (∀ w', Below w.heap.size w w' → Calls Tryz.prog 10 #[.agg #[.int .i64 k, .int .i64 n, .string s, .string t, .slice A0 n0 m0, .slice A1 n1 m1, .slice A2 n2 m2]] w' fun r w2 => r = .returned (.int .i64 ((nodesE 1 pm).length : Int)) ∧ Below w'.heap.size w' w2) := Lib.hid (fun w' hb => by
        have := Size_any chkN (Lib.hid chkN_says) _ _ k n s t A0 n0 m0 A1 n1 m1 A2 n2 m2 w' (HM.out.keepC (KC.of_same hb)) HhM.out (HEn.out.below hb).2.1
        rw [msd_val hmn] at this; exact this)
      have HDs : Hid (∀ d ∈ L, (msd chkN d.2).2.2 = 0 ∧ hE d.2 ≤ 900000) := Lib.hid (fun d hd => ⟨hds d hd, Nat.le_trans (HO.out.hd d hd).1 (by omega)⟩)
      have hLl : L.length ≤ 900000 := Nat.le_trans hnl hhE
      clear hck hds hmn hszv hnl hhE hro hm hcap hV HRp HCk HWh
      subst hv
      obtain ⟨TM, hTM⟩ : ∃ q, q = textE pm := ⟨_, rfl⟩
      obtain ⟨NM, hNM⟩ : ∃ q, q = (nodesE 1 pm).length := ⟨_, rfl⟩
      obtain ⟨TL, hTL⟩ : ∃ q, q = preP L := ⟨_, rfl⟩
      obtain ⟨NL, hNL⟩ : ∃ q, q = szP L := ⟨_, rfl⟩
      rw [← hTM, ← hTL] at HShE htl
      rw [← hTM] at HShM
      rw [← hNM, ← hNL] at HSzE hnb
      rw [← hNM] at HSzM
      have HTL := Lib.hid hTL
      have HNL := Lib.hid hNL
      obtain ⟨TA, hTA⟩ : ∃ q, q = strB (TL ++ TM) := ⟨_, rfl⟩
      have HTA := Lib.hid hTA
      rw [← hTA] at HShE
      obtain ⟨SM, hSM⟩ : ∃ q, q = strB TM := ⟨_, rfl⟩
      have HSM := Lib.hid hSM
      rw [← hSM] at HShM
      clear hTM hNM hTL hNL hTA hSM
      obtain ⟨np, hnp⟩ : ∃ q, q = L.length := ⟨_, rfl⟩
      have HNP := Lib.hid hnp
      rw [← hnp] at hLl
      rw [← hnp] at x2 HX
      clear hnp
      go_wp2_with fail
      clear hW4
      refine (HShE.out W4 (Below.refl _ _)).mono ?_
      rintro r w5 ⟨rfl, hb⟩
      have HC5 := Lib.hid hb
      clear hb x0 x1 x2 x3 x4 x5 x6 x7 x8 x9 e0 e1 e2 e3 e4 e5 e6
      go_wp2_with fail
      go_loopw [7, 8, 9] (fun sv nv iv wr => ∃ (kk : Nat) (O : ByteArray) (N : Nat), kk ≤ np ∧ sv = .string O ∧ nv = .int .i64 (N : Int) ∧ iv = .int .i64 (kk : Int) ∧ O.size ≤ 3000000 ∧ N ≤ 3000 ∧ Hid (O = strB (preP (L.take kk))) ∧ Hid (N = szP (L.take kk)) ∧ Hid (Below W4.heap.size W4 wr)) (fun _ _ iv _ => np - (intOf iv).toNat)
      case atStart => exact ⟨0, ⟨#[]⟩, 0, Nat.zero_le _, rfl, rfl, rfl, by decide, by decide, Lib.hid rfl, Lib.hid rfl, HC5⟩
      case round =>
        obtain ⟨kk, O, N, hk, rfl, rfl, rfl, hOz, hNz, HOq, HNq, hB⟩ := hrel
        have HBr := Lib.hid (HB4.out.trans (hB.out.mono HB4.out.size))
        have i0 : (0 : Int) ≤ (kk : Int) := by omega
        have x0 := cell_of_row wr w.heap.size 0 _ _ (0, 0) (HX.out _ HBr.out)
        have x1 := cell_of_row wr w.heap.size 1 _ _ (0, 0) (HX.out _ HBr.out)
        have x2 := cell_of_row wr w.heap.size 2 _ _ (0, 0) (HX.out _ HBr.out)
        have x3 := cell_of_row wr w.heap.size 3 _ _ (0, 0) (HX.out _ HBr.out)
        have x4 := cell_of_row wr w.heap.size 4 _ _ (0, 0) (HX.out _ HBr.out)
        have x5 := cell_of_row wr w.heap.size 5 _ _ (0, 0) (HX.out _ HBr.out)
        have x6 := cell_of_row wr w.heap.size 6 _ _ (0, 0) (HX.out _ HBr.out)
        have x7 := cell_of_row wr w.heap.size 7 _ _ (0, 0) (HX.out _ HBr.out)
        have x8 := cell_of_row wr w.heap.size 8 _ _ (0, 0) (HX.out _ HBr.out)
        have x9 := cell_of_row wr w.heap.size 9 _ _ (0, 0) (HX.out _ HBr.out)
        simp only [List.getElem?_toArray, List.getElem?_cons_zero, List.getElem?_cons_succ] at x0 x1 x2 x3 x4 x5 x6 x7 x8 x9
        by_cases hkl : kk < np
        · have hkl' : kk < L.length := by rw [← HNP.out]; exact hkl
          have i1 : (kk : Int) < (np : Int) := by omega
          obtain ⟨zb, zo, rfl, _, hlt, hc⟩ := (HDf.out.keepC (KC.of_same (HW.out _ HBr.out)) (fun _ _ h => h.keepC (KC.of_same (HW.out _ HBr.out)))) (List.ne_nil_of_length_pos (by omega))
          obtain ⟨cs, _, hcs, hr⟩ := hc kk _ (List.getElem?_eq_getElem hkl')
          obtain ⟨y, hy⟩ : ∃ y, y = L[kk] := ⟨_, rfl⟩
          obtain ⟨hy0, hyh⟩ := HDs.out y (by rw [hy]; exact List.getElem_mem hkl')
          have hTk : L.take (kk + 1) = L.take kk ++ [y] := by rw [take_succ_of hkl', ← hy]
          have hpl := preP_take L (kk + 1)
          have hzl := szP_take L (kk + 1)
          have hpO : O.size = (preP (L.take kk)).length := by rw [HOq.out, strB_size]
          have hHO2 : strB (preP (L.take (kk + 1))) = O ++ ⟨#[108, 101, 116, 32]⟩ ++ strB y.1 ++ ⟨#[32, 61, 32]⟩ ++ strB (textE y.2) ++ ⟨#[32, 105, 110, 32]⟩ := by rw [hTk, pre_str, HOq.out]
          have hHN2 : szP (L.take (kk + 1)) = N + ((nodesE 1 y.2).length + 1) := by rw [hTk, szP_snoc, HNq.out]
          rw [hTk, pre_len] at hpl
          rw [hHN2] at hzl
          rw [← hy] at hr
          clear hy hTk
          obtain ⟨ys, ye⟩ := y
          obtain ⟨c7, rfl, hys, hye⟩ := hr
          obtain ⟨k1, n1', s1, t1, A01, n01, m01, A11, n11, m11, A21, n21, m21, rfl⟩ := hye.shape
          dsimp only at hcs hys hye hy0 hyh hpl hzl hHO2 hHN2
          obtain ⟨SN, hSN⟩ : ∃ S, S = strB ys := ⟨_, rfl⟩
          obtain ⟨SU, hSU⟩ : ∃ S, S = strB (textE ye) := ⟨_, rfl⟩
          obtain ⟨NU, hNU⟩ : ∃ q, q = (nodesE 1 ye).length := ⟨_, rfl⟩
          have HShB : Hid (∀ w', Below wr.heap.size wr w' → Calls Tryz.prog 9 #[.agg #[.int .i64 k1, .int .i64 n1', .string s1, .string t1, .slice A01 n01 m01, .slice A11 n11 m11, .slice A21 n21 m21]] w' fun r w2 => r = .returned (.tuple #[.string SU, .int .i64 0]) ∧ Below w'.heap.size w' w2) := Lib.hid (fun w' hb => by
            have hbw := HW.out _ (HBr.out.trans (hb.mono HBr.out.size))
            have := Show_any _ _ k1 n1' s1 t1 A01 n01 m01 A11 n11 m11 A21 n21 m21 w' (hye.keepC (KC.of_same hb)) hyh (HEn.out.below hbw).2.1 (HEn.out.below hbw).2.2
            rw [show_ok hy0, ← hSU] at this; exact this)
          have HSzB : Hid (∀ w', Below wr.heap.size wr w' → Calls Tryz.prog 10 #[.agg #[.int .i64 k1, .int .i64 n1', .string s1, .string t1, .slice A01 n01 m01, .slice A11 n11 m11, .slice A21 n21 m21]] w' fun r w2 => r = .returned (.int .i64 (NU : Int)) ∧ Below w'.heap.size w' w2) := Lib.hid (fun w' hb => by
            have hbw := HW.out _ (HBr.out.trans (hb.mono HBr.out.size))
            have := Size_any chkN (Lib.hid chkN_says) _ _ k1 n1' s1 t1 A01 n01 m01 A11 n11 m11 A21 n21 m21 w' (hye.keepC (KC.of_same hb)) hyh (HEn.out.below hbw).2.1
            rw [msd_val hy0] at this; rw [hNU]; exact this)
          have hSNz : SN.size = ys.length := by rw [hSN, strB_size]
          have hSUz : SU.size = (textE ye).length := by rw [hSU, strB_size]
          rw [← hSN, ← hSU] at hHO2
          rw [← hNU] at hzl hHN2
          have hls : O.size + 4 + SN.size + 3 + SU.size + 4 ≤ 3000000 := by
            have h1 : (preP L).length ≤ 3000000 := by rw [← HTL.out]; omega
            omega
          have hln : N + NU + 1 ≤ 3000 := by
            have h1 : szP L ≤ 3000 := by rw [← HNL.out]; omega
            omega
          have HO2 := Lib.hid hHO2
          have HN2 := Lib.hid hHN2
          have q0 := hcs 0 _ rfl
          have q1 := hcs 1 _ rfl
          have q2 := hcs 2 _ rfl
          have q3 := hcs 3 _ rfl
          have q4 := hcs 4 _ rfl
          have q5 := hcs 5 _ rfl
          have q6 := hcs 6 _ rfl
          have q7 := hcs 7 _ rfl
          rw [Nat.add_zero] at q0
          rw [← hSN] at q0
          have HQ : Hid (∀ w', Below wr.heap.size wr w' → ∀ o v, wr.cell? ⟨zb, o, none⟩ = some v → w'.cell? ⟨zb, o, none⟩ = some v) := Lib.hid (fun w' h o v hv => (Below.cell (p := ⟨zb, o, none⟩) h hlt).trans hv)
          have HQ0 := Lib.hid q0
          have HQ1 := Lib.hid q1
          have HQ2 := Lib.hid q2
          have HQ3 := Lib.hid q3
          have HQ4 := Lib.hid q4
          have HQ5 := Lib.hid q5
          have HQ6 := Lib.hid q6
          have HQ7 := Lib.hid q7
          have HLt := Lib.hid hlt
          clear hc hcs hSN hSU hNU hys hye hy0 hyh hpl hzl hHO2 hHN2 hpO hSNz hSUz hlt
          go_wp2_with fail
          refine (HShB.out wr (Below.refl _ _)).mono ?_
          rintro r w6 ⟨rfl, hb⟩
          have HB6 := Lib.hid (hB.out.trans (hb.mono hB.out.size))
          have HB6r := Lib.hid hb
          have HB6w := Lib.hid (HB4.out.trans (HB6.out.mono HB4.out.size))
          clear hb x0 x1 x2 x3 x4 x5 x6 x7 x8 x9 q0 q1 q2 q3 q4 q5 q6 q7
          have hz0 : w.heap.size < w6.heap.size := Nat.lt_of_lt_of_le hxl HB6w.out.size
          have hz1 : zb < w6.heap.size := Nat.lt_of_lt_of_le HLt.out HB6r.out.size
          have x2 := cell_of_row w6 w.heap.size 2 _ _ (0, 0) (HX.out _ HB6w.out)
          simp only [List.getElem?_toArray, List.getElem?_cons_zero, List.getElem?_cons_succ] at x2
          have q0 := HQ.out _ HB6r.out _ _ HQ0.out
          have q1 := HQ.out _ HB6r.out _ _ HQ1.out
          have q2 := HQ.out _ HB6r.out _ _ HQ2.out
          have q3 := HQ.out _ HB6r.out _ _ HQ3.out
          have q4 := HQ.out _ HB6r.out _ _ HQ4.out
          have q5 := HQ.out _ HB6r.out _ _ HQ5.out
          have q6 := HQ.out _ HB6r.out _ _ HQ6.out
          have q7 := HQ.out _ HB6r.out _ _ HQ7.out
          have hs0 : PtS w6 w6 := Below.refl _ _
          have HP : Hid (∀ w', PtS w6 w' → Below wr.heap.size wr w') := Lib.hid (fun w' h => HB6r.out.trans (Below.mono (show Below w6.heap.size w6 w' from h) HB6r.out.size))
          have HAll := Lib.hid (fun w' (h : PtS w6 w') => And.intro (PtS.kp h hz0 x2) (And.intro (PtS.kp h hz1 q0) (And.intro (PtS.kp h hz1 q1) (And.intro (PtS.kp h hz1 q2) (And.intro (PtS.kp h hz1 q3) (And.intro (PtS.kp h hz1 q4) (And.intro (PtS.kp h hz1 q5) (And.intro (PtS.kp h hz1 q6) (And.intro (PtS.kp h hz1 q7) h)))))))))
          go_wp2_with fail
          have g1 : ¬ 9223372036854775807 < O.size + 4 := by omega
          have g2 : ¬ 9223372036854775807 < O.size + 4 + SN.size := by omega
          have g3 : ¬ 9223372036854775807 < O.size + 4 + SN.size + 3 := by omega
          have g4 : ¬ 9223372036854775807 < O.size + 4 + SN.size + 3 + SU.size := by omega
          have g5 : ¬ 9223372036854775807 < O.size + 4 + SN.size + 3 + SU.size + 4 := by omega
          clear x2 q0 q1 q2 q3 q4 q5 q6 q7
          go_region_held3 (fun w' => w'.cell? ⟨w.heap.size, 2, none⟩ = some (.slice (some ⟨zb, zo, none⟩) np cc) ∧ w'.cell? ⟨zb, zo + kk * 8, none⟩ = some (.string SN) ∧ w'.cell? ⟨zb, zo + kk * 8 + 1, none⟩ = some (.int .i64 k1) ∧ w'.cell? ⟨zb, zo + kk * 8 + 2, none⟩ = some (.int .i64 n1') ∧ w'.cell? ⟨zb, zo + kk * 8 + 3, none⟩ = some (.string s1) ∧ w'.cell? ⟨zb, zo + kk * 8 + 4, none⟩ = some (.string t1) ∧ w'.cell? ⟨zb, zo + kk * 8 + 5, none⟩ = some (.slice A01 n01 m01) ∧ w'.cell? ⟨zb, zo + kk * 8 + 6, none⟩ = some (.slice A11 n11 m11) ∧ w'.cell? ⟨zb, zo + kk * 8 + 7, none⟩ = some (.slice A21 n21 m21) ∧ PtS w6 w')
            ((refine HAll.out _ ?_; first | assumption | exact PtS.drew hs0 | exact PtS.below (by assumption) (PtS.drew hs0) | exact PtS.below (by assumption) (PtS.below (by assumption) (PtS.drew hs0))))
            ((go_at_call 10; refine (HSzB.out _ (HP.out _ (by first | assumption | exact PtS.drew hs0))).mono ?_; rintro e w' ⟨rfl, hb⟩))
          rename_i hh
          have HBn := Lib.hid (hB.out.trans ((HP.out _ hh.2.2.2.2.2.2.2.2.2).mono hB.out.size))
          clear hh hs0 HP HAll g1 g2 g3 g4 g5
          go_wp2_with fail
          go_roundw
          case rel => exact ⟨kk + 1, _, N + NU + 1, by omega, rfl, congrArg (Value.int .i64) (by rw [show IntKind.i64.wrap ((N : Int) + 1) = (N : Int) + 1 from IntWalk.i64_in _ (by omega), IntWalk.i64_in _ (by omega)]; omega), by go_num, by simp only [ByteArray.size_append]; show O.size + 4 + SN.size + 3 + SU.size + 4 ≤ 3000000; omega, by omega, Lib.hid HO2.out.symm, Lib.hid (by rw [HN2.out]; omega), HBn⟩
          case measure => simp [intOf]; omega
        · obtain rfl : kk = np := by omega
          have HEr := Lib.hid (HE4.out.kept (grown_below hB.out none) (by simp))
          have e0 := HEr.out.c0
          have e1 := HEr.out.c1
          have e2 := HEr.out.c2
          have e3 := HEr.out.c3
          have e4 := HEr.out.c4
          have e5 := HEr.out.c5
          have e6 := HEr.out.c6
          have hOS : O = strB TL := by rw [HOq.out, HTL.out, List.take_of_length_le (by rw [HNP.out]; exact Nat.le_refl _)]
          have hNS : N = NL := by rw [HNq.out, HNL.out, List.take_of_length_le (by rw [HNP.out]; exact Nat.le_refl _)]
          have hOT : TA = O ++ SM := by rw [hOS, HTA.out, HSM.out, strB_cat]
          subst hNS
          have HOT := Lib.hid hOT
          have g1 : ¬ 9223372036854775807 < O.size + SM.size := by
            have h1 := congrArg ByteArray.size hOT
            rw [HTA.out, strB_size, ByteArray.size_append] at h1
            rw [List.length_append] at h1
            omega
          have g2 : (TA.toList == (O ++ SM).toList) = true := by rw [hOT]; simp
          clear hOS hOT
          go_wp2_with fail
          refine (HShM.out wr (HW.out _ HBr.out)).mono ?_
          rintro r w6 ⟨rfl, hb⟩
          have HB6 := Lib.hid (HBr.out.trans (hb.mono HBr.out.size))
          have HB6e := Lib.hid (hB.out.trans (hb.mono hB.out.size))
          have HE6 := Lib.hid (HEr.out.kept (grown_below hb none) (by simp))
          clear hb x0 x1 x2 x3 x4 x5 x6 x7 x8 x9 e0 e1 e2 e3 e4 e5 e6
          have x0 := cell_of_row w6 w.heap.size 0 _ _ (0, 0) (HX.out _ HB6.out)
          have x1 := cell_of_row w6 w.heap.size 1 _ _ (0, 0) (HX.out _ HB6.out)
          have x2 := cell_of_row w6 w.heap.size 2 _ _ (0, 0) (HX.out _ HB6.out)
          have x3 := cell_of_row w6 w.heap.size 3 _ _ (0, 0) (HX.out _ HB6.out)
          have x4 := cell_of_row w6 w.heap.size 4 _ _ (0, 0) (HX.out _ HB6.out)
          have x5 := cell_of_row w6 w.heap.size 5 _ _ (0, 0) (HX.out _ HB6.out)
          have x6 := cell_of_row w6 w.heap.size 6 _ _ (0, 0) (HX.out _ HB6.out)
          have x7 := cell_of_row w6 w.heap.size 7 _ _ (0, 0) (HX.out _ HB6.out)
          have x8 := cell_of_row w6 w.heap.size 8 _ _ (0, 0) (HX.out _ HB6.out)
          have x9 := cell_of_row w6 w.heap.size 9 _ _ (0, 0) (HX.out _ HB6.out)
          simp only [List.getElem?_toArray, List.getElem?_cons_zero, List.getElem?_cons_succ] at x0 x1 x2 x3 x4 x5 x6 x7 x8 x9
          have e0 := HE6.out.c0
          have e1 := HE6.out.c1
          have e2 := HE6.out.c2
          have e3 := HE6.out.c3
          have e4 := HE6.out.c4
          have e5 := HE6.out.c5
          have e6 := HE6.out.c6
          go_wp2_with fail
          have hz0 : w.heap.size < w6.heap.size := Nat.lt_of_lt_of_le hxl HB6.out.size
          have hz1 : w3.heap.size < w6.heap.size := HE6.out.lt
          have hs0 : PtS w6 w6 := Below.refl _ _
          have HP : Hid (∀ w', PtS w6 w' → Below W4.heap.size W4 w') := Lib.hid (fun w' h => HB6e.out.trans (Below.mono (show Below w6.heap.size w6 w' from h) HB6e.out.size))
          have HPw : Hid (∀ w', PtS w6 w' → Below w.heap.size w w') := Lib.hid (fun w' h => (HW.out _ HB6.out).trans (Below.mono (show Below w6.heap.size w6 w' from h) (HW.out _ HB6.out).size))
          have HAll := Lib.hid (fun w' (h : PtS w6 w') => And.intro (PtS.kp h hz1 e0) (And.intro (PtS.kp h hz1 e1) (And.intro (PtS.kp h hz1 e2) (And.intro (PtS.kp h hz1 e3) (And.intro (PtS.kp h hz1 e4) (And.intro (PtS.kp h hz1 e5) (And.intro (PtS.kp h hz1 e6) (And.intro (PtS.kp h hz0 x3) (And.intro (PtS.kp h hz0 x4) (And.intro (PtS.kp h hz0 x5) (And.intro (PtS.kp h hz0 x6) (And.intro (PtS.kp h hz0 x7) (And.intro (PtS.kp h hz0 x8) (And.intro (PtS.kp h hz0 x9) (h)))))))))))))))
          have HLst : Hid (∀ w', (w'.cell? ⟨w3.heap.size, 0, none⟩ = some (.int .i64 k3) ∧ w'.cell? ⟨w3.heap.size, 1, none⟩ = some (.int .i64 n3) ∧ w'.cell? ⟨w3.heap.size, 2, none⟩ = some (.string s3) ∧ w'.cell? ⟨w3.heap.size, 3, none⟩ = some (.string t3) ∧ w'.cell? ⟨w3.heap.size, 4, none⟩ = some (.slice D0 du0 y0) ∧ w'.cell? ⟨w3.heap.size, 5, none⟩ = some (.slice D1 du1 y1) ∧ w'.cell? ⟨w3.heap.size, 6, none⟩ = some (.slice D2 du2 y2) ∧ w'.cell? ⟨w.heap.size, 3, none⟩ = some (.int .i64 k) ∧ w'.cell? ⟨w.heap.size, 4, none⟩ = some (.int .i64 n) ∧ w'.cell? ⟨w.heap.size, 5, none⟩ = some (.string s) ∧ w'.cell? ⟨w.heap.size, 6, none⟩ = some (.string t) ∧ w'.cell? ⟨w.heap.size, 7, none⟩ = some (.slice A0 n0 m0) ∧ w'.cell? ⟨w.heap.size, 8, none⟩ = some (.slice A1 n1 m1) ∧ w'.cell? ⟨w.heap.size, 9, none⟩ = some (.slice A2 n2 m2) ∧ PtS w6 w') → PtS w6 w') := Lib.hid (fun w' hh => hh.2.2.2.2.2.2.2.2.2.2.2.2.2.2)
          obtain ⟨NE, hNE⟩ : ∃ q, q = N + NM := ⟨_, rfl⟩
          have hwr : IntKind.i64.wrap ((N : Int) + (NM : Int)) = (N : Int) + (NM : Int) := IntWalk.i64_in _ (by omega)
          have hne : ((NE : Int) == (N : Int) + (NM : Int)) = true := beq_iff_eq.2 (by omega)
          rw [← hNE] at HSzE
          clear x0 x1 x2 x3 x4 x5 x6 x7 x8 x9 e0 e1 e2 e3 e4 e5 e6 hNE
          go_region_held3 (fun w' => w'.cell? ⟨w3.heap.size, 0, none⟩ = some (.int .i64 k3) ∧ w'.cell? ⟨w3.heap.size, 1, none⟩ = some (.int .i64 n3) ∧ w'.cell? ⟨w3.heap.size, 2, none⟩ = some (.string s3) ∧ w'.cell? ⟨w3.heap.size, 3, none⟩ = some (.string t3) ∧ w'.cell? ⟨w3.heap.size, 4, none⟩ = some (.slice D0 du0 y0) ∧ w'.cell? ⟨w3.heap.size, 5, none⟩ = some (.slice D1 du1 y1) ∧ w'.cell? ⟨w3.heap.size, 6, none⟩ = some (.slice D2 du2 y2) ∧ w'.cell? ⟨w.heap.size, 3, none⟩ = some (.int .i64 k) ∧ w'.cell? ⟨w.heap.size, 4, none⟩ = some (.int .i64 n) ∧ w'.cell? ⟨w.heap.size, 5, none⟩ = some (.string s) ∧ w'.cell? ⟨w.heap.size, 6, none⟩ = some (.string t) ∧ w'.cell? ⟨w.heap.size, 7, none⟩ = some (.slice A0 n0 m0) ∧ w'.cell? ⟨w.heap.size, 8, none⟩ = some (.slice A1 n1 m1) ∧ w'.cell? ⟨w.heap.size, 9, none⟩ = some (.slice A2 n2 m2) ∧ PtS w6 w')
            ((refine HAll.out _ ?_; first | assumption | exact PtS.drew hs0 | exact PtS.below (by assumption) (HLst.out _ (by assumption)) | exact PtS.below (by assumption) (PtS.drew hs0)))
            (first | (go_at_call 10; (with_reducible refine (HSzE.out _ (HP.out _ (by first | exact HLst.out _ (by assumption) | exact PtS.drew hs0))).mono ?_); rintro e' w' ⟨rfl, hb⟩) | (go_at_call 10; (with_reducible refine (HSzM.out _ (HPw.out _ (by first | exact HLst.out _ (by assumption) | exact PtS.drew hs0))).mono ?_); rintro e' w' ⟨rfl, hb⟩) | (go_at_call 11; (with_reducible refine (HCkE.out _ (HP.out _ (by first | exact HLst.out _ (by assumption) | exact PtS.drew hs0))).mono ?_); rintro e' w' ⟨rfl, hb⟩) | (go_at_call 5; refine (shows_any _ (HEn.out.below (HPw.out _ (by first | exact HLst.out _ (by assumption) | exact PtS.drew hs0)))).mono ?_; rintro e' w' ⟨rfl, hb⟩))
          rename_i hh
          have HBn := Lib.hid (HPw.out _ (HLst.out _ hh))
          clear hh HAll HLst hs0 HP HPw
          go_wp2_with fail
          go_ret
          exact ⟨rfl, HBn.out⟩
    · have hqc : (V != 0) = true := by simp [hv]
      have HV := Lib.hid hv
      clear hv hV
      go_wp2_with fail
      clear hW4
      refine (HCk.out _ (HW.out _ HB4.out)).mono ?_
      rintro r w5 ⟨rfl, hb⟩
      have HB5 := Lib.hid (HB4.out.trans (hb.mono HB4.out.size))
      have HE5 := Lib.hid (HE4.out.kept (grown_below hb none) (by simp))
      have HR5 := Lib.hid (HR4.out.keepC (KC.of_same hb))
      clear hb x0 x1 x2 x3 x4 x5 x6 x7 x8 x9 e0 e1 e2 e3 e4 e5 e6
      have e0 := HE5.out.c0
      have e1 := HE5.out.c1
      have e2 := HE5.out.c2
      have e3 := HE5.out.c3
      have e4 := HE5.out.c4
      have e5 := HE5.out.c5
      have e6 := HE5.out.c6
      go_wp2_with fail
      have HR6 := Lib.hid (show RepE (fun _ => True) w5 (.mk 0 0 [] [] [] [] [] []) _ by have := HR5.out; rwa [if_neg HV.out] at this)
      have hs1 : sameE (.mk 0 0 [] [] [] [] [] []) (.mk 0 0 [] [] [] [] [] []) = true := by kernel_rfl
      refine (rSame_any _ _ _ _ w5 HR6.out (rep_zero _ _)).mono ?_
      rintro r w6 ⟨hr, hb⟩
      rw [hs1] at hr
      subst hr
      have HB6 := Lib.hid (HB5.out.trans (hb.mono HB5.out.size))
      clear hb hs1 e0 e1 e2 e3 e4 e5 e6
      go_wp2_with fail
      refine (shows_any w6 (HEn.out.below (HW.out _ HB6.out))).mono ?_
      rintro r w7 ⟨rfl, hb⟩
      have HB7 := Lib.hid (HB6.out.trans (hb.mono HB6.out.size))
      clear hb
      go_wp2_with fail
      go_ret
      exact ⟨rfl, HW.out _ HB7.out⟩
end Go.Proofs.YtbmicnajedeenaaGreatDoor
