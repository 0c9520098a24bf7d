/- The law LexerAgain, walked. -/
import Derived.Test.YtdnolbbkphgfiaaDoorAlike
namespace Go.Proofs.YtdnolbbkphgfiaaDoor
open Go.RowKit

theorem ne_true {a b : Int} (h : ¬ a = b) : (a != b) = true := by rw [bne_iff_ne]; exact h
/-- the first half: what is joined is divided into the same tokens -/
def JoinHalf (ts : List Rt) (x : Int) (s : ByteArray) : Prop :=
  (x == 0) = false ∨ (x = 0 ∧ s.size ≤ 30000 ∧ ∃ ys : List Tk, lexS s.data.toList = (ys, 0, 0) ∧ ys.map key = ts.map rkey)
theorem key_rt (xs : List Tk) : (xs.map rt).map rkey = xs.map key := by rw [List.map_map]; rfl
theorem joinS_len {ts : List Rt} {l : List UInt8} {x : Int} (h : joinS ts = (l, x)) : l.length ≤ 30000 := by
  unfold joinS at h
  split at h
  · split at h
    · injection h with h _; subst h; simp
    · rename_i h3
      injection h with h _; subst h
      rw [join_len]; omega
  · injection h with h _; subst h; simp

set_option maxRecDepth 100000 in
set_option maxHeartbeats 4000000 in
theorem again_err (A : Option Addr) (c : Nat) (ts : List Rt) (t : ByteArray) (w : World) (hT : Toks w A ts) (hok : ∀ t ∈ ts, t.ok) (hsz : ts.length * 40 ≤ 140737488355328) (ht : t.size ≤ 281474976710656) (hE : Env w)
    (s : ByteArray) (x : Int) (hj : ∃ l, joinS ts = (l, x) ∧ strB l = s) (hJ : JoinHalf ts x s)
    (y er : Int) (hx : lexS t.data.toList = ([], y, er)) (he : (er = 2 ∧ 0 ≤ y ∧ y < t.size) ∨ (er = 3 ∧ y = 0)) :
    Calls Tryd.prog 9 #[.slice A ts.length c, .string t] w (Fin w) := by
  obtain ⟨l, hj, hs⟩ := hj
  obtain ⟨n, hn⟩ : ∃ n, ts.length = n := ⟨_, rfl⟩
  have HT := Lib.hid hT
  have HE := Lib.hid hE
  have HN := Lib.hid hn
  have HJ : Hid (∀ w, Toks w A ts → Env w → Calls Tryd.prog 18 #[.slice A n c] w fun e w' => e = .returned (.tuple #[.string s, .int .i64 x]) ∧ Below w.heap.size w w') := fun w hT hE => by rw [← hn]; exact Join_is A c ts l x w hT hE hok hsz hj s hs
  have HX := Lib.hid (fun w hY => Lex_is t [] y er w hY (by unfold maxLen; omega) hx)
  rw [hn] at hsz ⊢
  clear hT hE hok hj hs hx hn
  rcases he with ⟨rfl, hy1, hy2⟩ | ⟨rfl, rfl⟩
  · have HI : Hid (∀ w, Calls Tryd.prog 34 #[.int .i64 y, .int .i64 0, .int .i64 ((t.size : Int) - 1)] w fun e w' => e = .returned (.bool true) ∧ w = w') := fun w => (In_any _ _ _ w).mono fun e w' h => ⟨by rw [h.1]; apply ret_bool; rw [decide_eq_true (by omega), decide_eq_true (by omega)]; rfl, h.2⟩
    rcases hJ with hz | ⟨rfl, hs1, ys, hys, hk⟩
    · go_enter Tryd.func9, Tryd.ntmps9
      go_wp2_with fail
      refine (HJ.out _ HT.out HE.out).mono ?_; rintro e w1 ⟨rfl, hb⟩
      have HB1 := Lib.hid hb
      clear hb
      go_wp2_with fail
      refine (HX.out _ (HE.out.below HB1.out).syms).mono ?_; rintro e w2 ⟨B, d, rfl, _, hb⟩
      have HB2 := Lib.hid (below_call HB1.out hb)
      clear hb HB1
      go_wp2_with fail
      refine (HI.out _).mono ?_; rintro e w' ⟨rfl, rfl⟩
      go_wp2_with fail
      refine (Awake_any _ (HE.out.below HB2.out)).mono ?_; rintro e w4 ⟨rfl, hb⟩
      have HB4 := Lib.hid (below_call HB2.out hb)
      clear hb
      go_wp2_with fail
      go_ret
      exact ⟨rfl, HB4.out⟩
    · have hlen : ys.length = n := by
        have := congrArg List.length hk
        rw [List.length_map, List.length_map, HN.out] at this; exact this
      have hn1 : n ≤ 1000000 := by have := lexS_len s.data.toList; rw [hys] at this; have h2 : ys.length ≤ 30001 := this; omega
      have HS := Lib.hid (fun w hY => Lex_cap s ys 0 0 n w hY (by unfold maxLen; omega) hys hlen)
      have HA := Lib.hid (fun w A B c d hA hB => Alike_eq A B c d n ts (ys.map rt) w hA hB HN.out (by rw [List.length_map]; exact hlen) (by rw [key_rt]; exact hk.symm) hn1)
      have hs2 : decide ((30000 : Int) < (s.size : Int)) = false := decide_eq_false (by omega)
      clear hys hk hlen
      go_enter Tryd.func9, Tryd.ntmps9
      go_wp2_with fail
      refine (HJ.out _ HT.out HE.out).mono ?_; rintro e w1 ⟨rfl, hb⟩
      have HT1 := Lib.hid (HT.out.below hb)
      have HB1 := Lib.hid hb
      clear hb
      go_wp2_with fail
      refine (HS.out _ (HE.out.below HB1.out).syms).mono ?_; rintro e w2 ⟨B, d, rfl, _, hT, hb⟩
      have HT2 := Lib.hid (HT1.out.below hb)
      have HU2 := Lib.hid hT
      have HB2 := Lib.hid (below_call HB1.out hb)
      clear hb hT HB1 HT1
      go_wp2_with fail
      refine (HA.out _ _ _ _ _ HT2.out HU2.out).mono ?_; rintro e w3 ⟨rfl, hb⟩
      have HB3 := Lib.hid (below_call HB2.out hb)
      clear hb HB2 HT2 HU2
      go_wp2_with fail
      refine (HX.out _ (HE.out.below HB3.out).syms).mono ?_; rintro e w2 ⟨B, d, rfl, _, hb⟩
      have HB4 := Lib.hid (below_call HB3.out hb)
      clear hb HB3
      go_wp2_with fail
      refine (HI.out _).mono ?_; rintro e w' ⟨rfl, rfl⟩
      go_wp2_with fail
      refine (Awake_any _ (HE.out.below HB4.out)).mono ?_; rintro e w4 ⟨rfl, hb⟩
      have HB5 := Lib.hid (below_call HB4.out hb)
      clear hb
      go_wp2_with fail
      go_ret
      exact ⟨rfl, HB5.out⟩
  · rcases hJ with hz | ⟨rfl, hs1, ys, hys, hk⟩
    · go_enter Tryd.func9, Tryd.ntmps9
      go_wp2_with fail
      refine (HJ.out _ HT.out HE.out).mono ?_; rintro e w1 ⟨rfl, hb⟩
      have HB1 := Lib.hid hb
      clear hb
      go_wp2_with fail
      refine (HX.out _ (HE.out.below HB1.out).syms).mono ?_; rintro e w2 ⟨B, d, rfl, _, hb⟩
      have HB2 := Lib.hid (below_call HB1.out hb)
      clear hb HB1
      go_wp2_with fail
      refine (Awake_any _ (HE.out.below HB2.out)).mono ?_; rintro e w4 ⟨rfl, hb⟩
      have HB4 := Lib.hid (below_call HB2.out hb)
      clear hb
      go_wp2_with fail
      go_ret
      exact ⟨rfl, HB4.out⟩
    · have hlen : ys.length = n := by
        have := congrArg List.length hk
        rw [List.length_map, List.length_map, HN.out] at this; exact this
      have hn1 : n ≤ 1000000 := by have := lexS_len s.data.toList; rw [hys] at this; have h2 : ys.length ≤ 30001 := this; omega
      have HS := Lib.hid (fun w hY => Lex_cap s ys 0 0 n w hY (by unfold maxLen; omega) hys hlen)
      have HA := Lib.hid (fun w A B c d hA hB => Alike_eq A B c d n ts (ys.map rt) w hA hB HN.out (by rw [List.length_map]; exact hlen) (by rw [key_rt]; exact hk.symm) hn1)
      have hs2 : decide ((30000 : Int) < (s.size : Int)) = false := decide_eq_false (by omega)
      clear hys hk hlen
      go_enter Tryd.func9, Tryd.ntmps9
      go_wp2_with fail
      refine (HJ.out _ HT.out HE.out).mono ?_; rintro e w1 ⟨rfl, hb⟩
      have HT1 := Lib.hid (HT.out.below hb)
      have HB1 := Lib.hid hb
      clear hb
      go_wp2_with fail
      refine (HS.out _ (HE.out.below HB1.out).syms).mono ?_; rintro e w2 ⟨B, d, rfl, _, hT, hb⟩
      have HT2 := Lib.hid (HT1.out.below hb)
      have HU2 := Lib.hid hT
      have HB2 := Lib.hid (below_call HB1.out hb)
      clear hb hT HB1 HT1
      go_wp2_with fail
      refine (HA.out _ _ _ _ _ HT2.out HU2.out).mono ?_; rintro e w3 ⟨rfl, hb⟩
      have HB3 := Lib.hid (below_call HB2.out hb)
      clear hb HB2 HT2 HU2
      go_wp2_with fail
      refine (HX.out _ (HE.out.below HB3.out).syms).mono ?_; rintro e w2 ⟨B, d, rfl, _, hb⟩
      have HB4 := Lib.hid (below_call HB3.out hb)
      clear hb HB3
      go_wp2_with fail
      refine (Awake_any _ (HE.out.below HB4.out)).mono ?_; rintro e w4 ⟨rfl, hb⟩
      have HB5 := Lib.hid (below_call HB4.out hb)
      clear hb
      go_wp2_with fail
      go_ret
      exact ⟨rfl, HB5.out⟩

set_option maxRecDepth 100000 in
set_option maxHeartbeats 4000000 in
theorem again_ok (A : Option Addr) (c : Nat) (ts : List Rt) (t : ByteArray) (w : World) (hT : Toks w A ts) (hok : ∀ t ∈ ts, t.ok) (hsz : ts.length * 40 ≤ 140737488355328) (ht : t.size ≤ 281474976710656) (hE : Env w)
    (s : ByteArray) (x : Int) (hj : ∃ l, joinS ts = (l, x) ∧ strB l = s) (hJ : JoinHalf ts x s)
    (zs : List Tk) (hx : lexS t.data.toList = (zs, 0, 0)) :
    Calls Tryd.prog 9 #[.slice A ts.length c, .string t] w (Fin w) := by
  obtain ⟨l, hj, hs⟩ := hj
  obtain ⟨n, hn⟩ : ∃ n, ts.length = n := ⟨_, rfl⟩
  obtain ⟨m, hm⟩ : ∃ m, zs.length = m := ⟨_, rfl⟩
  have hm1 : m ≤ 1000000 := by have := lexS_len t.data.toList; rw [hx] at this; have h2 : zs.length ≤ 30001 := this; omega
  have HT := Lib.hid hT
  have HE := Lib.hid hE
  have HN := Lib.hid hn
  have HJ : Hid (∀ w, Toks w A ts → Env w → Calls Tryd.prog 18 #[.slice A n c] w fun e w' => e = .returned (.tuple #[.string s, .int .i64 x]) ∧ Below w.heap.size w w') := fun w hT hE => by rw [← hn]; exact Join_is A c ts l x w hT hE hok hsz hj s hs
  have HX := Lib.hid (fun w hY => Lex_cap t zs 0 0 m w hY (by unfold maxLen; omega) hx hm)
  have hzok : ∀ t ∈ zs.map rt, t.ok := by
    intro u hu
    obtain ⟨z, hz, rfl⟩ := List.mem_map.1 hu
    have h1 := lexS_num hx hz
    obtain ⟨p, hp⟩ := lexS_mem hx hz
    refine ⟨⟨by show _ ≤ z.n; omega, by show z.n ≤ _; omega⟩, ?_⟩
    show (strB z.s).size ≤ maxLen
    rw [← len_data, data_strB]
    rcases tokS_class hp with ⟨_, e, _⟩ | ⟨e, _, h⟩
    · rw [e]; simp
    · rw [e]
      have : p.length ≤ 12 := by
        rcases h with ⟨_, h⟩ | ⟨_, h, _⟩ | ⟨_, h⟩ | ⟨_, h⟩
        · have := kw_len h; omega
        · exact nm_len h
        · exact nm_len h
        · have := sym_len h; omega
      unfold maxLen; omega
  have hback := joinS_lex hx
  rw [hn] at hsz ⊢
  clear hT hE hok hj hs hx hn
  rcases hback with ⟨u, us, hu, hul, hus, huk⟩ | ⟨u, hu, h3⟩
  · have hmu : us.length = m := by
      have := congrArg List.length huk
      rw [List.length_map, List.length_map] at this; omega
    have HK : Hid (∀ w B d, Toks w B (zs.map rt) → Env w → Calls Tryd.prog 18 #[.slice B m d] w fun e w' => e = .returned (.tuple #[.string (strB u), .int .i64 0]) ∧ Below w.heap.size w w') := fun w B d hT hE => by
      have := Join_is B d (zs.map rt) u 0 w hT hE hzok (by rw [List.length_map]; omega) hu (strB u) rfl
      rwa [List.length_map, hm] at this
    have HM := Lib.hid (fun w hY => Lex_cap (strB u) us 0 0 m w hY (by rw [← len_data, data_strB]; unfold maxLen; omega) hus hmu)
    have HAM := Lib.hid (fun w A B c d hA hB => Alike_eq A B c d m (zs.map rt) (us.map rt) w hA hB (by rw [List.length_map]; exact hm) (by rw [List.length_map]; exact hmu) (by rw [key_rt, key_rt]; exact huk.symm) hm1)
    obtain ⟨v, hv⟩ : ∃ v, v = strB u := ⟨_, rfl⟩
    rw [← hv] at HK HM
    clear hzok hu hul hus huk hmu hv hm
    rcases hJ with hz | ⟨rfl, hs1, ys, hys, hk⟩
    · go_enter Tryd.func9, Tryd.ntmps9
      go_wp2_with fail
      refine (HJ.out _ HT.out HE.out).mono ?_; rintro e w1 ⟨rfl, hb⟩
      have HB1 := Lib.hid hb
      clear hb
      go_wp2_with fail
      refine (HX.out _ (HE.out.below HB1.out).syms).mono ?_; rintro e w2 ⟨B, d, rfl, _, hT, hb⟩
      have HT2 := Lib.hid hT
      have HB2 := Lib.hid (below_call HB1.out hb)
      clear hb HB1 hT
      go_wp2_with fail
      refine (HK.out _ _ _ HT2.out (HE.out.below HB2.out)).mono ?_; rintro e w3 ⟨rfl, hb⟩
      have HT3 := Lib.hid (HT2.out.below hb)
      have HB3 := Lib.hid (below_call HB2.out hb)
      clear hb HB2 HT2
      go_wp2_with fail
      refine (HM.out _ (HE.out.below HB3.out).syms).mono ?_; rintro e w4 ⟨C, f, rfl, _, hT, hb⟩
      have HT4 := Lib.hid (HT3.out.below hb)
      have HU4 := Lib.hid hT
      have HB4 := Lib.hid (below_call HB3.out hb)
      clear hb HB3 HT3 hT
      go_wp2_with fail
      refine (HAM.out _ _ _ _ _ HT4.out HU4.out).mono ?_; rintro e w5 ⟨rfl, hb⟩
      have HB5 := Lib.hid (below_call HB4.out hb)
      clear hb HB4 HT4 HU4
      go_wp2_with fail
      refine (Awake_any _ (HE.out.below HB5.out)).mono ?_; rintro e w6 ⟨rfl, hb⟩
      have HB6 := Lib.hid (below_call HB5.out hb)
      clear hb
      go_wp2_with fail
      go_ret
      exact ⟨rfl, HB6.out⟩
    · have hlen : ys.length = n := by
        have := congrArg List.length hk
        rw [List.length_map, List.length_map, HN.out] at this; exact this
      have hn1 : n ≤ 1000000 := by have := lexS_len s.data.toList; rw [hys] at this; have h2 : ys.length ≤ 30001 := this; omega
      have HS := Lib.hid (fun w hY => Lex_cap s ys 0 0 n w hY (by unfold maxLen; omega) hys hlen)
      have HA := Lib.hid (fun w A B c d hA hB => Alike_eq A B c d n ts (ys.map rt) w hA hB HN.out (by rw [List.length_map]; exact hlen) (by rw [key_rt]; exact hk.symm) hn1)
      have hs2 : decide ((30000 : Int) < (s.size : Int)) = false := decide_eq_false (by omega)
      clear hys hk hlen
      go_enter Tryd.func9, Tryd.ntmps9
      go_wp2_with fail
      refine (HJ.out _ HT.out HE.out).mono ?_; rintro e w1 ⟨rfl, hb⟩
      have HT1 := Lib.hid (HT.out.below hb)
      have HB1 := Lib.hid hb
      clear hb
      go_wp2_with fail
      refine (HS.out _ (HE.out.below HB1.out).syms).mono ?_; rintro e w2 ⟨B, d, rfl, _, hT, hb⟩
      have HT2 := Lib.hid (HT1.out.below hb)
      have HU2 := Lib.hid hT
      have HB2 := Lib.hid (below_call HB1.out hb)
      clear hb hT HB1 HT1
      go_wp2_with fail
      refine (HA.out _ _ _ _ _ HT2.out HU2.out).mono ?_; rintro e w3 ⟨rfl, hb⟩
      have HB1 := Lib.hid (below_call HB2.out hb)
      clear hb HB2 HT2 HU2
      go_wp2_with fail
      refine (HX.out _ (HE.out.below HB1.out).syms).mono ?_; rintro e w2 ⟨B, d, rfl, _, hT, hb⟩
      have HT2 := Lib.hid hT
      have HB2 := Lib.hid (below_call HB1.out hb)
      clear hb HB1 hT
      go_wp2_with fail
      refine (HK.out _ _ _ HT2.out (HE.out.below HB2.out)).mono ?_; rintro e w3 ⟨rfl, hb⟩
      have HT3 := Lib.hid (HT2.out.below hb)
      have HB3 := Lib.hid (below_call HB2.out hb)
      clear hb HB2 HT2
      go_wp2_with fail
      refine (HM.out _ (HE.out.below HB3.out).syms).mono ?_; rintro e w4 ⟨C, f, rfl, _, hT, hb⟩
      have HT4 := Lib.hid (HT3.out.below hb)
      have HU4 := Lib.hid hT
      have HB4 := Lib.hid (below_call HB3.out hb)
      clear hb HB3 HT3 hT
      go_wp2_with fail
      refine (HAM.out _ _ _ _ _ HT4.out HU4.out).mono ?_; rintro e w5 ⟨rfl, hb⟩
      have HB5 := Lib.hid (below_call HB4.out hb)
      clear hb HB4 HT4 HU4
      go_wp2_with fail
      refine (Awake_any _ (HE.out.below HB5.out)).mono ?_; rintro e w6 ⟨rfl, hb⟩
      have HB6 := Lib.hid (below_call HB5.out hb)
      clear hb
      go_wp2_with fail
      go_ret
      exact ⟨rfl, HB6.out⟩
  · have HK : Hid (∀ w B d, Toks w B (zs.map rt) → Env w → Calls Tryd.prog 18 #[.slice B m d] w fun e w' => e = .returned (.tuple #[.string (strB u), .int .i64 3]) ∧ Below w.heap.size w w') := fun w B d hT hE => by
      have := Join_is B d (zs.map rt) u 3 w hT hE hzok (by rw [List.length_map]; omega) hu (strB u) rfl
      rwa [List.length_map, hm] at this
    obtain ⟨v, hv⟩ : ∃ v, v = strB u := ⟨_, rfl⟩
    rw [← hv] at HK
    have h4 : decide ((30000 : Int) < 2 * (t.size : Int)) = true := decide_eq_true (by rw [len_data] at h3; omega)
    clear hzok hu hv hm h3
    rcases hJ with hz | ⟨rfl, hs1, ys, hys, hk⟩
    · go_enter Tryd.func9, Tryd.ntmps9
      go_wp2_with fail
      refine (HJ.out _ HT.out HE.out).mono ?_; rintro e w1 ⟨rfl, hb⟩
      have HB1 := Lib.hid hb
      clear hb
      go_wp2_with fail
      refine (HX.out _ (HE.out.below HB1.out).syms).mono ?_; rintro e w2 ⟨B, d, rfl, _, hT, hb⟩
      have HT2 := Lib.hid hT
      have HB2 := Lib.hid (below_call HB1.out hb)
      clear hb HB1 hT
      go_wp2_with fail
      refine (HK.out _ _ _ HT2.out (HE.out.below HB2.out)).mono ?_; rintro e w3 ⟨rfl, hb⟩
      have HB3 := Lib.hid (below_call HB2.out hb)
      clear hb HB2 HT2
      go_wp2_with fail
      refine (Awake_any _ (HE.out.below HB3.out)).mono ?_; rintro e w6 ⟨rfl, hb⟩
      have HB6 := Lib.hid (below_call HB3.out hb)
      clear hb
      go_wp2_with fail
      go_ret
      exact ⟨rfl, HB6.out⟩
    · have hlen : ys.length = n := by
        have := congrArg List.length hk
        rw [List.length_map, List.length_map, HN.out] at this; exact this
      have hn1 : n ≤ 1000000 := by have := lexS_len s.data.toList; rw [hys] at this; have h2 : ys.length ≤ 30001 := this; omega
      have HS := Lib.hid (fun w hY => Lex_cap s ys 0 0 n w hY (by unfold maxLen; omega) hys hlen)
      have HA := Lib.hid (fun w A B c d hA hB => Alike_eq A B c d n ts (ys.map rt) w hA hB HN.out (by rw [List.length_map]; exact hlen) (by rw [key_rt]; exact hk.symm) hn1)
      have hs2 : decide ((30000 : Int) < (s.size : Int)) = false := decide_eq_false (by omega)
      clear hys hk hlen
      go_enter Tryd.func9, Tryd.ntmps9
      go_wp2_with fail
      refine (HJ.out _ HT.out HE.out).mono ?_; rintro e w1 ⟨rfl, hb⟩
      have HT1 := Lib.hid (HT.out.below hb)
      have HB1 := Lib.hid hb
      clear hb
      go_wp2_with fail
      refine (HS.out _ (HE.out.below HB1.out).syms).mono ?_; rintro e w2 ⟨B, d, rfl, _, hT, hb⟩
      have HT2 := Lib.hid (HT1.out.below hb)
      have HU2 := Lib.hid hT
      have HB2 := Lib.hid (below_call HB1.out hb)
      clear hb hT HB1 HT1
      go_wp2_with fail
      refine (HA.out _ _ _ _ _ HT2.out HU2.out).mono ?_; rintro e w3 ⟨rfl, hb⟩
      have HB1 := Lib.hid (below_call HB2.out hb)
      clear hb HB2 HT2 HU2
      go_wp2_with fail
      refine (HX.out _ (HE.out.below HB1.out).syms).mono ?_; rintro e w2 ⟨B, d, rfl, _, hT, hb⟩
      have HT2 := Lib.hid hT
      have HB2 := Lib.hid (below_call HB1.out hb)
      clear hb HB1 hT
      go_wp2_with fail
      refine (HK.out _ _ _ HT2.out (HE.out.below HB2.out)).mono ?_; rintro e w3 ⟨rfl, hb⟩
      have HB3 := Lib.hid (below_call HB2.out hb)
      clear hb HB2 HT2
      go_wp2_with fail
      refine (Awake_any _ (HE.out.below HB3.out)).mono ?_; rintro e w6 ⟨rfl, hb⟩
      have HB6 := Lib.hid (below_call HB3.out hb)
      clear hb
      go_wp2_with fail
      go_ret
      exact ⟨rfl, HB6.out⟩

theorem again_walk (A : Option Addr) (c : Nat) (ts : List Rt) (t : ByteArray) (w : World) (hT : Toks w A ts) (hok : ∀ t ∈ ts, t.ok) (hsz : ts.length * 40 ≤ 140737488355328) (ht : t.size ≤ 281474976710656) (hE : Env w) :
    Calls Tryd.prog 9 #[.slice A ts.length c, .string t] w (Fin w) := by
  obtain ⟨l, x, hj⟩ : ∃ l x, joinS ts = (l, x) := ⟨_, _, rfl⟩
  have hJ : JoinHalf ts x (strB l) := by
    by_cases h0 : x = 0
    · subst h0
      obtain ⟨hl, ys, h1, h2⟩ := joinS_ok hj rfl
      exact .inr ⟨rfl, by rw [← len_data, data_strB]; exact hl, ys, by rw [data_strB]; exact h1, h2⟩
    · exact .inl (eq_false' h0)
  obtain ⟨zs, y, er, hx⟩ : ∃ zs y er, lexS t.data.toList = (zs, y, er) := ⟨_, _, _, rfl⟩
  by_cases he : er = 0
  · subst he
    obtain rfl := lexS_at0 hx
    exact again_ok A c ts t w hT hok hsz ht hE _ x ⟨l, hj, rfl⟩ hJ zs hx
  · obtain ⟨rfl, h⟩ := lexS_err hx he
    rw [len_data] at h
    exact again_err A c ts t w hT hok hsz ht hE _ x ⟨l, hj, rfl⟩ hJ y er hx h
end Go.Proofs.YtdnolbbkphgfiaaDoor
