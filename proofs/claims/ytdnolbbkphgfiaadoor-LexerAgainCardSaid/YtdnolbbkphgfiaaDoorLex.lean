/- Lex: the tokens of a text. -/
import Derived.Test.YtdnolbbkphgfiaaDoorRange
namespace Go.Proofs.YtdnolbbkphgfiaaDoor
open Go.RowKit Go.Shelf

attribute [local go_sem] Oper.semAt_some

theorem info43 : (Tryd.prog.info? 43).map (fun i => (i.zero, i.size, i.bytes)) = some (some (.agg #[.int .i64 0, .string ⟨#[]⟩, .int .i64 0, .int .i64 0]), 4, 40) := by kernel_rfl

/-- what a call of Lex leaves: the tokens in new memory, an index, an error -/
def LexPost (w : World) (base : Nat) (r : List Tk × Int × Int) (e : Ending) (w' : World) : Prop :=
  ∃ v, e = .returned (.tuple #[v, .int .i64 r.2.1, .int .i64 r.2.2]) ∧ w'.ownsRow base 43 4 v r.1.length (flat r.1) ∧ Below w.heap.size w w'

/-- what is known between two rounds -/
def LexInv (w : World) (pre : List Tk) (W : World) : Prop := ∃ v, Boxed W w.heap.size 22 v ∧ W.ownsRow (w.heap.size + 2) 43 4 v pre.length (flat pre) ∧ Below w.heap.size w W ∧ w.heap.size + 2 ≤ W.heap.size

theorem LexPost.mk' {w w' : World} {base : Nat} {r : List Tk × Int × Int} {xs : List Tk} {a b : Int} {v : Value} (h : r = (xs, a, b)) (ho : w'.ownsRow base 43 4 v xs.length (flat xs)) (hb : Below w.heap.size w w') :
    LexPost w base r (.returned (.tuple #[v, .int .i64 a, .int .i64 b])) w' := by subst h; exact ⟨v, rfl, ho, hb⟩
theorem owns_weaken {w : World} {b b' : Nat} {e : TypeId} {size : Nat} {v : Value} {n : Nat} {xs : List Value} (h : w.ownsRow b e size v n xs) (hb : b' ≤ b) : w.ownsRow b' e size v n xs := by
  refine ⟨h.1, ?_⟩
  rcases h.2 with h2 | ⟨g, cap, cur, h1, h2, h3⟩
  · exact .inl h2
  · exact .inr ⟨g, cap, cur, h1, by omega, h3⟩
theorem lexF_len : ∀ (f off : Nat) (l : List UInt8), (lexF f off l).1.length ≤ f
  | 0, _, _ => by simp [lexF]
  | f + 1, off, l => by
    unfold lexF
    split
    · simp
    · have := lexF_len f
      simp only [List.length_cons]
      have := this (off + spLen false l + (partOf (l.drop (spLen false l))).length) (l.drop (spLen false l + (partOf (l.drop (spLen false l))).length))
      omega
theorem cell_toks (w : World) (x : Tk) (t : TypeId) : ∀ j u, (tkCells x)[j]? = some u → (w.alloc (.cells (tkCells x).toArray t)).cell? ((⟨w.heap.size, 0, none⟩ : Addr).add j) = some u := by
  intro j u hj
  match j, hj with
  | 0, hj => simp [tkCells] at hj; subst hj; simp [Addr.add, tkCells]
  | 1, hj => simp [tkCells] at hj; subst hj; simp [Addr.add, tkCells]
  | 2, hj => simp [tkCells] at hj; subst hj; simp [Addr.add, tkCells]
  | 3, hj => simp [tkCells] at hj; subst hj; simp [Addr.add, tkCells]
  | j + 4, hj => simp [tkCells] at hj
theorem tk_one (x : Tk) : ∀ u ∈ tkCells x, u.oneCell' = true := by
  intro u hu
  simp only [tkCells, List.mem_cons, List.not_mem_nil, or_false] at hu
  rcases hu with rfl | rfl | rfl | rfl <;> rfl

theorem res14 {tmps : Array Value} {w : World} {g : Nat} {v : Value} {a b : Int} (h2 : tmps.getD 2 undef = .pointer (some ⟨g, 0, none⟩)) (h3 : tmps.getD 3 undef = .int .i64 a) (h4 : tmps.getD 4 undef = .int .i64 b) (h : Boxed w g 22 v) :
    (results Tryd.f14 tmps).run Tryd.prog w = .ok (.tuple #[v, .int .i64 a, .int .i64 b]) w := by
  have c0 := h.cell
  have h2' : tmps[2]?.getD undef = .pointer (some ⟨g, 0, none⟩) := by simpa using h2
  have h3' : tmps[3]?.getD undef = .int .i64 a := by simpa using h3
  have h4' : tmps[4]?.getD undef = .int .i64 b := by simpa using h4
  simp [results, Tryd.results14, go_sem, h2', h3', h4', c0]

theorem round_end {w A w1 : World} {v v' : Value} {pre : List Tk} {x : Tk} {tmp : Obj} {a : Act} (hv : Boxed A w.heap.size 22 v) (hrow : A.ownsRow (w.heap.size + 2) 43 4 v pre.length (flat pre)) (hB : Below w.heap.size w A) (hZ : w.heap.size + 2 ≤ A.heap.size)
    (hv1 : Boxed w1 w.heap.size 22 v) (hown' : w1.ownsRow (w.heap.size + 2) 43 4 v' (pre.length + 1) (flat pre ++ tkCells x)) (hgrow : (A.alloc tmp).grownBy w1 v.ownBlock) :
    roundQ w.heap.size (LexInv w) (pre ++ [x]) A .normal a (w1.setCell ⟨w.heap.size, 0, none⟩ v') := by
  have hrowA := hrow.alloc tmp
  have hown : ∀ j, v.ownBlock = some j → w.heap.size + 2 ≤ j ∧ ∃ cs fr, (A.alloc tmp).heap[j]? = some (Obj.cells cs 43 fr) := by
    intro j ej
    rcases hrowA.2 with ⟨rfl, _⟩ | ⟨g, cap, cur, rfl, hb, hgb, _⟩
    · simp [Value.ownBlock] at ej
    · obtain rfl : g = j := by simpa [Value.ownBlock] using ej
      exact ⟨hb, _, _, hgb⟩
  have hBel : Below w.heap.size A (w1.setCell ⟨w.heap.size, 0, none⟩ v') := by
    refine bset ((((Below.refl w.heap.size A).alloc (by omega) tmp).grown hgrow (by simp; omega) fun j ej => ?_)) (Nat.le_refl _) v'
    have := (hown j ej).1; omega
  refine ⟨?_, ⟨hBel, ?_⟩, v', hv1.set v', ?_, hB.trans hBel, ?_⟩
  · refine ((KeepsOthers.alloc A tmp).trans (KeepsOthers.of_grownBy hgrow fun j o ej hj => ?_)).trans (KeepsOthers.setCell _ _ _)
    obtain ⟨_, cs, fr, hgb⟩ := hown j ej
    rw [hgb] at hj; cases hj; rfl
  · intro k cs t fr hk h1 h2
    have hlt := (Array.getElem?_eq_some_iff.1 hk).1
    have e1 : k ≠ w.heap.size := by
      rintro rfl
      unfold Boxed at hv
      rw [hv] at hk
      injection hk with hk; injection hk with _ ht
      exact h1 ht.symm
    have e2 : some k ≠ v.ownBlock := by
      intro e
      obtain ⟨_, cs', fr', hgb⟩ := hown k e.symm
      rw [Below.heap_alloc A tmp k hlt, hk] at hgb
      injection hgb with hgb; injection hgb with _ ht
      exact h2 ht
    rw [Below.heap_setCell _ _ _ _ e1, hgrow.block k (by simp; omega) e2, Below.heap_alloc A tmp k hlt]
  · rw [List.length_append, flat_snoc]
    exact hown'.kept (grownBy_setCell' w1 _ v') (.inr (hv1.not_row (by decide) hown').symm)
  · exact Nat.le_trans hZ hBel.size

set_option maxRecDepth 100000 in
set_option maxHeartbeats 1000000 in
theorem Lex_any (s : ByteArray) (w : World) (hY : Syms w) (hsz : s.size ≤ maxLen) :
    Calls Tryd.prog 14 #[.string s] w (LexPost w w.heap.size (lexS s.data.toList)) := by
  unfold maxLen at hsz
  by_cases hlong : 30000 < s.size
  · have HR := Lib.hid (show lexS s.data.toList = ([], 0, 3) by unfold lexS; rw [len_data, if_pos hlong])
    refine callsIn_wide (n := 20) |>.1 ?_
    refine callsIn_of_wp_marks Tryd.func14 rfl trivial ?_ rfl
    simp only [Tryd.ntmps14, List.size_toArray, List.length_cons, List.length_nil, Nat.reduceAdd, Nat.reduceSub, Array.replicate_succ, Array.replicate_zero, List.push_toArray, List.append_toArray, List.nil_append, List.cons_append]
    gi_wp2
    exact ⟨_, res14 rfl rfl rfl (Boxed.new w 22 (.slice none 0 0)), LexPost.mk' HR.out (World.ownsRow_nil _ _ _ _) ((Below.refl _ _).alloc (Nat.le_refl _) _)⟩
  · obtain ⟨xs, fin, hx⟩ : ∃ xs fin, lexF (s.size + 1) 0 s.data.toList = (xs, fin) := ⟨_, _, rfl⟩
    refine callsIn_wide (n := 20) |>.1 ?_
    refine callsIn_of_wp_marks Tryd.func14 rfl trivial ?_ rfl
    simp only [Tryd.ntmps14, List.size_toArray, List.length_cons, List.length_nil, Nat.reduceAdd, Nat.reduceSub, Array.replicate_succ, Array.replicate_zero, List.push_toArray, List.append_toArray, List.nil_append, List.cons_append]
    have HY := Lib.hid hY
    have HX := Lib.hid hx
    clear hY hx
    gi_wp2
    obtain ⟨i0, hi, hz0, hz1, hz2⟩ := info_parts info43
    have hB2 : Below w.heap.size w ((w.alloc (.cells #[.slice none 0 0] 22)).alloc (.cells #[.string s, .int .i64 0, .int .i64 0] 55)) := ((Below.refl _ w).alloc (Nat.le_refl _) _).alloc (by simp) _
    have hS : Src ((w.alloc (.cells #[.slice none 0 0] 22)).alloc (.cells #[.string s, .int .i64 0, .int .i64 0] 55)) (w.heap.size + 1) s 0 0 := by
      have := heap_alloc_new (w.alloc (.cells #[.slice none 0 0] 22)) (.cells #[.string s, .int .i64 0, .int .i64 0] 55)
      rwa [World.size_alloc] at this
    have hlen : xs.length ≤ 30001 := by
      have := lexF_len (s.size + 1) 0 s.data.toList
      rw [HX.out] at this
      have h2 : xs.length ≤ s.size + 1 := this
      omega
    refine lex_range (n := 20) (by omega) (w.heap.size + 1) w.heap.size s xs fin 0 rfl hS (HY.out.below hB2 HY.out.pos) (by omega) HY.out.pos (by simp; omega) (by omega) HX.out (LexInv w) ?hI ?hIp ?h0
      (fun x c => { tmps := #[.string s, undef, .pointer (some ⟨w.heap.size, 0, none⟩), .int .i64 0, .int .i64 0, .pointer (some ⟨w.heap.size + 1, 0, none⟩), .pointer (some ⟨c, 0, none⟩), .string s, .int .i64 (s.size : Int), .bool (decide (30000 < (s.size : Int))), .string s, .agg #[.string s, .int .i64 0], .agg #[.string s, .int .i64 0, .int .i64 0], .func (.func 37) #[.pointer (some ⟨w.heap.size + 1, 0, none⟩)] #[], tkArg x, undef, undef, undef, undef, undef, undef, undef, undef, undef, undef, undef, undef], defers := [] }) ?assign ?body ?done
    case hI =>
      rintro pre A B ⟨v, hv, hrow, hB, hZ⟩ hg
      refine ⟨v, hv.kept hg (by simp), hrow.kept hg ?_, hB.grown hg hB.size (fun k e => by cases e; omega), Nat.le_trans hZ hg.size⟩
      rcases hrow.2 with ⟨rfl, _⟩ | ⟨g, cap, cur, rfl, hb, _⟩
      · exact .inl rfl
      · refine .inr fun e => ?_
        have : g = w.heap.size + 1 := by simpa [Value.ownBlock] using e
        omega
    case hIp =>
      rintro pre A l o o' ⟨v, hv, hrow, hB, hZ⟩ hl ho hle
      refine ⟨v, hv.kept (grownBy_putObj' A l o') (by simp at hle ⊢; omega), ownsRow_putObj hrow _ hl ho, hB.grown (grownBy_putObj' A l o') hB.size (fun k e => by cases e; simp at hle; omega), by rw [World.putObj_size]; exact hZ⟩
    case h0 => exact ⟨_, (Boxed.new w 22 _).alloc _, World.ownsRow_nil _ _ _ _, hB2, by simp⟩
    case assign =>
      intro l x A K hK
      simp only [tkArg, tkCells] at hK ⊢
      gi_wp2
      exact hK
    case body =>
      rintro l pre x A c ⟨v, hv, hrow, hB, hZ⟩ hc _ hpre
      have c0 : A.cell? ⟨c, 0, none⟩ = some (.int .i64 x.kind) := cell_of_row A c 0 _ 43 (0, 0) hc
      have c1 : A.cell? ⟨c, 1, none⟩ = some (.string (strB x.s)) := cell_of_row A c 1 _ 43 (0, 0) hc
      have c2 : A.cell? ⟨c, 2, none⟩ = some (.int .i64 x.n) := cell_of_row A c 2 _ 43 (0, 0) hc
      have c3 : A.cell? ⟨c, 3, none⟩ = some (.int .i64 (x.pos : Int)) := cell_of_row A c 3 _ 43 (0, 0) hc
      have hb0 := hv.cell
      have hpl : pre.length + 1 ≤ 30001 := by
        have := hpre.length_le
        simp only [List.length_append, List.length_cons, List.length_nil] at this
        omega
      have HV := Lib.hid hv
      have HRow := Lib.hid hrow
      have HB := Lib.hid hB
      have HSZ := Lib.hid hZ
      clear hv hrow hB hZ hc hpre
      simp only [tkArg]
      gi_wp2_with (gi_at_builtin; refine wpListIn_append_own _ rfl _ _ 22 rfl (w.heap.size + 2) 43 i0 (.agg #[.int .i64 0, .string ⟨#[]⟩, .int .i64 0, .int .i64 0]) 4 40 Tryd.underlying22 hi hz0 hz1 hz2 rfl (by decide) _ _ _ rfl (HRow.out.alloc _) ⟨A.heap.size, 0, none⟩ 1 1 (tkCells x) rfl rfl (cell_toks A x 43) (tk_one x) (by unfold maxLen; omega) (by omega) (by have := HSZ.out; simp; omega) ?_; intro v' w1 hown' hgrow _; obtain ⟨g', cap', rfl⟩ := ownsRow_succ hown'; have HV1 := Lib.hid ((HV.out.alloc _).kept hgrow (HV.out.not_row (by decide) HRow.out)); have hb1 := HV1.out.cell; have hf1 := HV1.out.frozen; have HO := Lib.hid hown'; have HGr := Lib.hid hgrow; clear hown' hgrow)
      exact round_end HV.out HRow.out HB.out HSZ.out HV1.out HO.out HGr.out
    case done =>
      rintro D A hD ⟨v, hv, hrow, hB, hZ⟩ hsrc hK
      have hb0 := hv.cell
      have hf0 := hv.frozen
      have hc2 := hsrc.c2
      have hDN : D ≠ w.heap.size := by simp at hD; omega
      have HV := Lib.hid hv
      have HRow := Lib.hid hrow
      have HB := Lib.hid hB
      have HK := Lib.hid hK
      have HD : Hid (w.heap.size ≤ D) := by simp at hD; exact Nat.le_trans (by omega) hD
      have HDN := Lib.hid hDN
      clear hv hrow hB hK hsrc hDN hD
      have hput : ∀ (B : World) (o : Obj), Below w.heap.size w B → B.heap[D]? = some (Obj.deferred (some [])) → Below w.heap.size w (B.putObj D o) := fun B o hb hd =>
        hb.grown (grownBy_putObj' B D o) hb.size (fun k e => by cases e; exact HD.out)
      have HP := Lib.hid hput
      clear hput
      by_cases hfin : fin < s.size
      · have HR := Lib.hid (show lexS s.data.toList = ([], (fin : Int), 2) by unfold lexS; rw [len_data, if_neg hlong, HX.out, if_pos hfin])
        gi_wp2
        gi_region
        gi_wp2
        have hd2 : ((A.setCell ⟨w.heap.size, 0, none⟩ (.slice none 0 0)).drew).heap[D]? = some (Obj.deferred (some [])) := (Below.heap_setCell A ⟨w.heap.size, 0, none⟩ _ D HDN.out).trans HK.out
        refine ⟨by simp, .inl ⟨_, _, rfl, run_takeDeferred hd2, ?_⟩⟩
        have hbx : Boxed (((A.setCell ⟨w.heap.size, 0, none⟩ (.slice none 0 0)).drew).putObj D (.deferred none)) w.heap.size 22 (.slice none 0 0) := (World.putObj_heap_other (Ne.symm HDN.out)).trans (HV.out.set _)
        exact ⟨_, res14 rfl rfl rfl hbx, LexPost.mk' HR.out (World.ownsRow_nil _ _ _ _) (HP.out _ _ ((bset HB.out (Nat.le_refl _) (o := 0) (.slice none 0 0)).grown (grown_drew _ none) (by have := HB.out.size; simpa [World.setCell] using this) (fun k e => by cases e)) hd2)⟩
      · have HR := Lib.hid (show lexS s.data.toList = (xs, 0, 0) by unfold lexS; rw [len_data, if_neg hlong, HX.out, if_neg hfin])
        obtain ⟨a, n, c, rfl⟩ : ∃ a n c, v = .slice a n c := by
          rcases HRow.out.2 with ⟨rfl, _⟩ | ⟨g, cap, cur, rfl, _⟩
          · exact ⟨_, _, _, rfl⟩
          · exact ⟨_, _, _, rfl⟩
        gi_wp2
        have hd2 : (A.setCell ⟨w.heap.size, 0, none⟩ (.slice a n c)).heap[D]? = some (Obj.deferred (some [])) := (Below.heap_setCell A ⟨w.heap.size, 0, none⟩ _ D HDN.out).trans HK.out
        refine ⟨by simp, .inl ⟨_, _, rfl, run_takeDeferred hd2, ?_⟩⟩
        have hbx : Boxed ((A.setCell ⟨w.heap.size, 0, none⟩ (.slice a n c)).putObj D (.deferred none)) w.heap.size 22 (.slice a n c) := (World.putObj_heap_other (Ne.symm HDN.out)).trans (HV.out.set _)
        have hr2 := HRow.out.kept (grownBy_setCell' A w.heap.size (.slice a n c)) (.inr (HV.out.not_row (by decide) HRow.out).symm)
        exact ⟨_, res14 rfl rfl rfl hbx, LexPost.mk' HR.out (owns_weaken (ownsRow_putObj hr2 _ hd2 rfl) (by omega)) (HP.out _ _ (bset HB.out (Nat.le_refl _) _) hd2)⟩
end Go.Proofs.YtdnolbbkphgfiaaDoor
