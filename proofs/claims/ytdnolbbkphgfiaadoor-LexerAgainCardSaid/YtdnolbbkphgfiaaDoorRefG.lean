/- The reference's Lex. -/
import Derived.Test.YtdnolbbkphgfiaaDoorRefE
import Derived.Test.YtdnolbbkphgfiaaDoorRefF
import Derived.Test.YtdnolbbkphgfiaaDoorAwake
namespace Go.Proofs.YtdnolbbkphgfiaaDoor
open Go.RowKit

/-- where the reference stands: behind the space, with these tokens -/
def LI (s : ByteArray) (o : Nat) (pre : List Tk) : Prop :=
  ∃ f p, p ≤ s.size ∧ o = p + spLen false (s.data.toList.drop p) ∧ s.size - p < f ∧
    lexF (s.size + 1) 0 s.data.toList = (pre ++ (lexF f p (s.data.toList.drop p)).1, (lexF f p (s.data.toList.drop p)).2)
theorem LI.start (s : ByteArray) : LI s (spLen false (s.data.toList.drop 0)) [] := ⟨s.size + 1, 0, by omega, by omega, by omega, by rw [List.drop_zero, List.nil_append]⟩
theorem LI.none {s : ByteArray} {o : Nat} {pre : List Tk} (h : LI s o pre) (ht : tokS (partOf (s.data.toList.drop o)) = none) : lexF (s.size + 1) 0 s.data.toList = (pre, o) := by
  obtain ⟨f, p, hp, ho, hf, e⟩ := h
  obtain ⟨f, rfl⟩ : ∃ f', f = f' + 1 := ⟨f - 1, by omega⟩
  rw [e, lexF_none ho ht, List.append_nil]
theorem part_le (s : ByteArray) (o : Nat) (ho : o ≤ s.size) : o + (partOf (s.data.toList.drop o)).length ≤ s.size := by
  have := partOf_le (s.data.toList.drop o)
  rw [List.length_drop, len_data] at this
  omega
theorem LI.step {s : ByteArray} {o : Nat} {pre : List Tk} (h : LI s o pre) (hos : o ≤ s.size) {k n : Int} {x : List UInt8} (ht : tokS (partOf (s.data.toList.drop o)) = some (k, x, n)) :
    LI s (o + (partOf (s.data.toList.drop o)).length + spLen false (s.data.toList.drop (o + (partOf (s.data.toList.drop o)).length))) (pre ++ [⟨k, x, n, o⟩]) := by
  obtain ⟨f, p, hp, ho, hf, e⟩ := h
  obtain ⟨f, rfl⟩ : ∃ f', f = f' + 1 := ⟨f - 1, by omega⟩
  have hl := part_le s o hos
  have h1 := part_pos ht
  refine ⟨f, o + (partOf (s.data.toList.drop o)).length, hl, rfl, by omega, ?_⟩
  rw [e, lexF_some ho ht, List.append_assoc]
  rfl
theorem sp_le (s : ByteArray) (p : Nat) (hp : p ≤ s.size) : p + spLen false (s.data.toList.drop p) ≤ s.size := by
  have := spLen_le false (s.data.toList.drop p)
  rw [List.length_drop, len_data] at this
  omega
theorem tok_kind {l s : List UInt8} {k n : Int} (h : tokS l = some (k, s, n)) : 0 ≤ k ∧ k ≤ 4 := by
  rcases tokS_class h with ⟨rfl, _⟩ | ⟨_, _, h | h | h | h⟩
  · omega
  all_goals (obtain ⟨rfl, _⟩ := h; omega)

set_option maxRecDepth 100000 in
set_option maxHeartbeats 4000000 in
theorem rLex_any (s : ByteArray) (w : World) (hsz : s.size ≤ maxLen) :
    Calls Tryd.prog 15 #[.string s] w (LexPost w w.heap.size (lexS s.data.toList)) := by
  unfold maxLen at hsz
  by_cases hlong : 30000 < s.size
  · have HR := Lib.hid (show lexS s.data.toList = ([], 0, 3) by unfold lexS; rw [len_data, if_pos hlong])
    go_enter Tryd.func15, Tryd.ntmps15
    go_wp2_with fail
    go_ret3
    exact LexPost.mk' HR.out (World.ownsRow_nil _ _ _ _) (Below.refl _ _)
  · obtain ⟨i0, hi, hz0, hz1, hz2⟩ := info_parts info43
    have H36 : Hid (∀ (p : Nat) (w : World), p ≤ s.size → Calls Tryd.prog 36 #[.string s, .int .i64 (p : Int)] w fun e w' => e = .returned (.int .i64 (spLen false (s.data.toList.drop p) : Int)) ∧ w = w') := fun p w h => rSpace_any s p w (by omega) h
    have H38 : Hid (∀ (p : Nat) (w : World), p ≤ s.size → Calls Tryd.prog 38 #[.string s, .int .i64 (p : Int)] w fun e w' => e = .returned (.string (strB (partOf (s.data.toList.drop p)))) ∧ Below w.heap.size w w') := fun p w h => begins_any s p w (by omega) h
    have hsp0 := sp_le s 0 (by omega)
    have hls := LI.start s
    have h36 := H36.out 0 w (by omega)
    obtain ⟨o0, ho0⟩ : ∃ o, o = spLen false (s.data.toList.drop 0) := ⟨_, rfl⟩
    rw [← ho0] at hsp0 hls h36
    have HS := Lib.hid hls
    have H0 := Lib.hid h36
    clear hls h36 ho0
    go_enter Tryd.func15, Tryd.ntmps15
    go_wp2_with fail
    refine (Calls.mono H0.out ?_); rintro e w' ⟨rfl, rfl⟩
    go_wp2_with fail
    go_loopw [5, 6] (fun v i wr => ∃ (o : Nat) (pre : List Tk), o ≤ s.size ∧ i = .int .i64 (o : Int) ∧ pre.length ≤ o ∧ Hid (LI s o pre) ∧ Hid (wr.ownsRow w.heap.size 43 4 v pre.length (flat pre)) ∧ Hid (Below w.heap.size w wr)) (fun _ i _ => s.size - (intOf i).toNat)
    case atStart => exact ⟨o0, [], by omega, rfl, by simp, HS, World.ownsRow_nil _ _ _ _, Below.refl _ _⟩
    case round =>
      clear HS H0 hsp0
      obtain ⟨o, pre, ho, rfl, hpre, HI, HO, HB⟩ := hrel
      by_cases hlt : o < s.size
      · have hpl := part_le s o ho
        obtain ⟨pt, hpt⟩ : ∃ pt, pt = partOf (s.data.toList.drop o) := ⟨_, rfl⟩
        have HP := Lib.hid hpt
        have h38 : Hid (∀ w, Calls Tryd.prog 38 #[.string s, .int .i64 (o : Int)] w fun e w' => e = .returned (.string (strB pt)) ∧ Below w.heap.size w w') := fun w => by rw [HP.out]; exact H38.out o w ho
        rw [← hpt] at hpl
        have hps : (strB pt).size = pt.length := by rw [← len_data]; rfl
        have h39 : Hid (∀ w, Calls Tryd.prog 39 #[.string (strB pt)] w fun e w' => e = rTokOf (tokS pt) ∧ Below w.heap.size w w') := fun w => rToken_any (strB pt) w (by unfold maxLen; omega)
        cases htk : tokS pt with
        | none =>
          have HR := Lib.hid (show lexS s.data.toList = ([], (o : Int), 2) by
            unfold lexS
            rw [len_data, if_neg hlong, HI.out.none (by rw [← HP.out]; exact htk), if_pos hlt])
          rw [htk] at h39
          clear htk hpt
          go_wp2_with fail
          refine (h38.out _).mono ?_; rintro e w1 ⟨rfl, hb⟩
          have HB1 := Lib.hid (below_call HB.out hb)
          clear hb
          go_wp2_with fail
          refine (h39.out _).mono ?_; rintro e w2 ⟨rfl, hb⟩
          have HB2 := Lib.hid (below_call HB1.out hb)
          clear hb HB1
          simp only [rTokOf, rTok]
          go_wp2_with fail
          go_ret3
          have HX : Hid (∀ W : World, Below w.heap.size w W → LexPost w w.heap.size (lexS s.data.toList) (.returned (.tuple #[.slice none 0 0, .int .i64 (o : Int), .int .i64 2])) W) := fun W hW => LexPost.mk' HR.out (World.ownsRow_nil _ _ _ _) hW
          exact HX.out _ (HB2.out.alloc HB2.out.size _)
        | some x =>
          obtain ⟨kk, st, nn⟩ := x
          have hkk := tok_kind htk
          have HI2 := Lib.hid (HI.out.step ho (by rw [← HP.out]; exact htk))
          rw [← HP.out] at HI2
          have hpos : 0 < pt.length := by have := part_pos (l := s.data.toList.drop o) (by rw [← HP.out]; exact htk); rwa [← HP.out] at this
          have hsp := sp_le s (o + pt.length) hpl
          have h36 : Hid (∀ w, Calls Tryd.prog 36 #[.string s, .int .i64 ((o : Int) + ((strB pt).size : Int))] w fun e w' => e = .returned (.int .i64 (spLen false (s.data.toList.drop (o + pt.length)) : Int)) ∧ w = w') := fun w => by
            have := H36.out (o + pt.length) w hpl
            rw [hps]
            rwa [Int.natCast_add] at this
          rw [htk] at h39
          obtain ⟨sl, hsl⟩ : ∃ sl, sl = spLen false (s.data.toList.drop (o + pt.length)) := ⟨_, rfl⟩
          rw [← hsl] at HI2 hsp h36
          clear htk hpt hsl
          obtain ⟨hk0, hk4⟩ := hkk
          go_wp2_with fail
          refine (h38.out _).mono ?_; rintro e w1 ⟨rfl, hb⟩
          have HB1 := Lib.hid (below_call HB.out hb)
          have HO1 := Lib.hid (HO.out.kept (grown_below hb none) (own_any _))
          clear hb
          go_wp2_with fail
          refine (h39.out _).mono ?_; rintro e w2 ⟨rfl, hb⟩
          have HB2 := Lib.hid (below_call HB1.out hb)
          have HO2 := Lib.hid (HO1.out.kept (grown_below hb none) (own_any _))
          clear hb HB1 HO1 HB HO
          simp only [rTokOf, rTok]
          have HC : Hid (∀ j u, (tkCells ⟨kk, st, nn, o⟩)[j]? = some u → ((w2.alloc (.cells (tkCells ⟨kk, st, nn, o⟩).toArray 43)).alloc (.cells (tkCells ⟨kk, st, nn, o⟩).toArray 43)).cell? ((⟨w2.heap.size + 1, 0, none⟩ : Addr).add j) = some u) := by
            have := cell_toks (w2.alloc (.cells (tkCells ⟨kk, st, nn, o⟩).toArray 43)) ⟨kk, st, nn, o⟩ 43
            rwa [World.size_alloc] at this
          go_wp2_with (at_builtin; refine wpList_append_own _ rfl _ _ 22 rfl w.heap.size 43 i0 (.agg #[.int .i64 0, .string ⟨#[]⟩, .int .i64 0, .int .i64 0]) 4 40 Tryd.underlying22 hi hz0 hz1 hz2 rfl (by decide) _ _ _ rfl ((HO2.out.alloc _).alloc _) ⟨w2.heap.size + 1, 0, none⟩ 1 1 (tkCells ⟨kk, st, nn, o⟩) rfl rfl HC.out (tk_one ⟨kk, st, nn, o⟩) (by unfold maxLen; omega) (by omega) (by have := HB2.out.size; simp; omega) ?_; intro v' w3 hown' hgrow _; have HO3 := Lib.hid hown'; have HB3 := Lib.hid (((HB2.out.alloc HB2.out.size _).alloc (by have := HB2.out.size; simp; omega) _).grown hgrow (by have := HB2.out.size; simp; omega) (fun j e => by have := (HO2.out.lt _ e).1; omega)); clear hown' hgrow)
          refine (h36.out _).mono ?_; rintro e w' ⟨rfl, rfl⟩
          go_wp2_with fail
          go_roundw
          case rel => exact ⟨o + pt.length + sl, pre ++ [⟨kk, st, nn, o⟩], by omega, by go_num, by simp only [List.length_append, List.length_cons, List.length_nil]; omega, HI2, (by show World.ownsRow _ _ _ _ _ _ _; rw [List.length_append, flat_snoc]; exact HO3.out), HB3⟩
          case measure => simp [intOf]; omega
      · obtain rfl : o = s.size := by omega
        have HR := Lib.hid (show lexS s.data.toList = (pre, 0, 0) by
          unfold lexS
          rw [len_data, if_neg hlong, HI.out.none (by rw [List.drop_of_length_le (by rw [len_data]; omega)]; decide), if_neg (by omega)])
        obtain ⟨a, n, c, rfl⟩ : ∃ a n c, u5 = .slice a n c := by
          rcases HO.out.2 with ⟨rfl, _⟩ | ⟨g, cap, cur, rfl, _⟩
          · exact ⟨_, _, _, rfl⟩
          · exact ⟨_, _, _, rfl⟩
        go_wp2_with fail
        go_ret3
        exact LexPost.mk' HR.out HO.out HB.out
end Go.Proofs.YtdnolbbkphgfiaaDoor
