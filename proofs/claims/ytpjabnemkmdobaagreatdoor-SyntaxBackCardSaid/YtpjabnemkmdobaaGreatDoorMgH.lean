/- Texts put together by program: EbI EbJ RTxI EbK EbL EbM EbN EbO. -/
import Derived.Test.YtpjabnemkmdobaaGreatDoorMgG
import Derived.Maps.AppendAt
import Derived.Test.YtpjabnemkmdobaaGreatDoorMgF
import Derived.Test.YtpjabnemkmdobaaGreatDoorMgE
import Derived.WalkMore
namespace Go.Proofs.YtpjabnemkmdobaaGreatDoor
open Go.RowKit
set_option maxRecDepth 100000 in
set_option maxHeartbeats 2000000 in
theorem head_kw {F:Prop}(b g go c:Nat)(ts:List Rt)(nx dp:Nat)(t:Rt)(nx1:Nat)(lf:Ex)(w:World)(h:PS w b g go c ts nx dp)(ht:ts[nx]?=some t)(hk:t.k=1)(hn:NoHead t)
  (HA:Hid (∀ w',w.grownBy w' (some b)→PS w' b g go c ts nx dp→Calls Tryz.prog 118 #[.pointer (some ⟨b,0,none⟩)] w' (OF F w' b g go c ts (ExprTo w' b g go c ts nx1 dp lf)))) :
  Calls Tryz.prog 116 #[.pointer (some ⟨b,0,none⟩)] w (OF F w b g go c ts (ExprTo w b g go c ts nx1 dp lf)):=by
 have hbl:=h.blt
 have hgl:=h.lt
 have HP:=Lib.hid (fun w h=>peek_any b g go c ts nx dp t w h ht)
 have HS:Hid (∀ (s:ByteArray) w,PS w b g go c ts nx dp→t.s≠s.data.toList→Calls Tryz.prog 114 #[.pointer (some ⟨b,0,none⟩),.string s] w fun e w'=>e=.returned (.bool false)∧Below w.heap.size w w'):=fun s w h h2=>skip_no b g go c ts nx dp t s w h ht h2
 have HN:=Lib.hid hn
 have H:=Lib.hid h
 have fl0:=tfield0
 obtain ⟨tk,tss,tn,tp⟩:=t
 simp only at hk HP HS HN
 subst hk
 obtain ⟨S,hS⟩:∃ S,S=strB tss:=⟨_,rfl⟩
 rw [← hS] at HP
 clear h ht hn hS
 go_enter Tryz.func116,Tryz.ntmps116
 go_wp2_with fail
 have H1:Hid (PS (w.alloc (.cells #[.int .i64 0,.int .i64 0,.string ⟨#[]⟩,.string ⟨#[]⟩,.slice none 0 0,.slice none 0 0,.slice none 0 0] 27)) b g go c ts nx dp):=H.out.below ((Below.refl _ _).alloc (Nat.le_refl _) _)
 have HE1:=Lib.hid (EB.new w (.int .i64 0) (.int .i64 0) (.string ⟨#[]⟩) (.string ⟨#[]⟩) (.slice none 0 0) (.slice none 0 0) (.slice none 0 0))
 have HG1:Hid (w.grownBy _ none):=World.grownBy_alloc w (.cells #[.int .i64 0,.int .i64 0,.string ⟨#[]⟩,.string ⟨#[]⟩,.slice none 0 0,.slice none 0 0,.slice none 0 0] 27) none
 refine (HS.out _ _ H1.out HN.out.1).mono ?_;rintro e w2 ⟨rfl,hb⟩
 have H2:=Lib.hid (H1.out.below hb)
 have HE2:=Lib.hid (HE1.out.kept (grown_below hb none) (by simp))
 have HG2:=Lib.hid (grown_trans HG1.out (grown_below hb none))
 clear hb H1 HE1 HG1
 go_wp2_with fail
 refine (HS.out _ _ H2.out HN.out.2.1).mono ?_;rintro e w3 ⟨rfl,hb⟩
 have H3:=Lib.hid (H2.out.below hb)
 have HE3:=Lib.hid (HE2.out.kept (grown_below hb none) (by simp))
 have HG3:=Lib.hid (grown_trans HG2.out (grown_below hb none))
 clear hb H2 HE2 HG2
 go_wp2_with fail
 refine (HS.out _ _ H3.out HN.out.2.2.1).mono ?_;rintro e w4 ⟨rfl,hb⟩
 have H4:=Lib.hid (H3.out.below hb)
 have HE4:=Lib.hid (HE3.out.kept (grown_below hb none) (by simp))
 have HG4:=Lib.hid (grown_trans HG3.out (grown_below hb none))
 clear hb H3 HE3 HG3
 go_wp2_with fail
 refine (HS.out _ _ H4.out HN.out.2.2.2).mono ?_;rintro e w5 ⟨rfl,hb⟩
 have H5:=Lib.hid (H4.out.below hb)
 have HE5:=Lib.hid (HE4.out.kept (grown_below hb none) (by simp))
 have HG5:=Lib.hid (grown_trans HG4.out (grown_below hb none))
 clear hb H4 HE4 HG4
 go_wp2_with fail
 refine wp_region_any (by kernel_rfl) ?_
 change wpAny _ _ _ _ _ _ _ (World.drew _)
 refine take1 (i:=0) (d:=58) (v:=.pointer (some ⟨b,0,none⟩)) rfl rfl (by kernel_rfl) (by kernel_rfl) (by kernel_rfl) (fun _ _ _ h=>h) (Or.inl ⟨by kernel_rfl,fun _=>by kernel_rfl⟩) ?_
 refine take1 (i:=1) (d:=59) (v:=.pointer (some ⟨b,0,none⟩)) rfl rfl (by kernel_rfl) (by kernel_rfl) (by kernel_rfl) (fun _ _ _ h=>h) (Or.inl ⟨by kernel_rfl,fun _=>by kernel_rfl⟩) ?_
 refine take1 (i:=2) (d:=60) (v:=.pointer (some ⟨b,0,none⟩)) rfl rfl (by kernel_rfl) (by kernel_rfl) (by kernel_rfl) (fun _ _ _ h=>h) (Or.inl ⟨by kernel_rfl,fun _=>by kernel_rfl⟩) ?_
 refine wpAny_ready (rs:=[3]) (by kernel_rfl) (by simp) (AllReady.cons rfl (fun K hK=>?_) AllReady.nil)
 go_simp
 refine (HP.out _ (H5.out.drewN 1)).mono ?_;rintro e w6 ⟨rfl,hb⟩
 have H6:=Lib.hid ((H5.out.drewN 1).below hb)
 have HE6:=Lib.hid (HE5.out.kept (grown_trans (grown_drewN w5 1 none) (grown_below hb none)) (by simp))
 have HG6:=Lib.hid (grown_trans HG5.out (grown_trans (grown_drewN w5 1 none) (grown_below hb none)))
 clear hb
 refine hK _ _ ?_
 clear hK K
 refine take1 (i:=4) (d:=62) (v:=.int .i64 1) rfl rfl (by kernel_rfl) (by kernel_rfl) (by kernel_rfl) (fun _ _ _ h=>h) (Or.inl ⟨by kernel_rfl,fun _=>by kernel_rfl⟩) ?_
 refine take1 (i:=5) (d:=63) (v:=.bool false) rfl rfl (by kernel_rfl) (by kernel_rfl) (by kernel_rfl) (fun _ _ _ h=>h) (Or.inl ⟨by kernel_rfl,fun _=>by kernel_rfl⟩) ?_
 refine take1 (i:=6) (d:=64) (v:=.bool false) rfl rfl (by kernel_rfl) (by kernel_rfl) (by kernel_rfl) (fun _ _ _ h=>h) (Or.inl ⟨by kernel_rfl,fun _=>by kernel_rfl⟩) ?_
 refine take1 (i:=7) (d:=65) (v:=undef) rfl rfl (by kernel_rfl) (by kernel_rfl) (by kernel_rfl) (fun _ _ _ h=>h) (Or.inr ⟨by kernel_rfl,rfl⟩) ?_
 refine take1 (i:=8) (d:=66) (v:=undef) rfl rfl (by kernel_rfl) (by kernel_rfl) (by kernel_rfl) (fun _ _ _ h=>h) (Or.inr ⟨by kernel_rfl,rfl⟩) ?_
 refine take1 (i:=9) (d:=67) (v:=undef) rfl rfl (by kernel_rfl) (by kernel_rfl) (by kernel_rfl) (fun _ _ _ h=>h) (Or.inr ⟨by kernel_rfl,rfl⟩) ?_
 refine take1 (i:=10) (d:=68) (v:=undef) rfl rfl (by kernel_rfl) (by kernel_rfl) (by kernel_rfl) (fun _ _ _ h=>h) (Or.inr ⟨by kernel_rfl,rfl⟩) ?_
 refine take1 (i:=11) (d:=69) (v:=undef) rfl rfl (by kernel_rfl) (by kernel_rfl) (by kernel_rfl) (fun _ _ _ h=>h) (Or.inr ⟨by kernel_rfl,rfl⟩) ?_
 refine take1 (i:=12) (d:=70) (v:=undef) rfl rfl (by kernel_rfl) (by kernel_rfl) (by kernel_rfl) (fun _ _ _ h=>h) (Or.inr ⟨by kernel_rfl,rfl⟩) ?_
 refine take1 (i:=13) (d:=71) (v:=undef) rfl rfl (by kernel_rfl) (by kernel_rfl) (by kernel_rfl) (fun _ _ _ h=>h) (Or.inr ⟨by kernel_rfl,rfl⟩) ?_
 refine take1 (i:=14) (d:=72) (v:=undef) rfl rfl (by kernel_rfl) (by kernel_rfl) (by kernel_rfl) (fun _ _ _ h=>h) (Or.inr ⟨by kernel_rfl,rfl⟩) ?_
 refine take1 (i:=15) (d:=73) (v:=undef) rfl rfl (by kernel_rfl) (by kernel_rfl) (by kernel_rfl) (fun _ _ _ h=>h) (Or.inr ⟨by kernel_rfl,rfl⟩) ?_
 refine take1 (i:=16) (d:=74) (v:=undef) rfl rfl (by kernel_rfl) (by kernel_rfl) (by kernel_rfl) (fun _ _ _ h=>h) (Or.inr ⟨by kernel_rfl,rfl⟩) ?_
 refine take1 (i:=17) (d:=75) (v:=undef) rfl rfl (by kernel_rfl) (by kernel_rfl) (by kernel_rfl) (fun _ _ _ h=>h) (Or.inr ⟨by kernel_rfl,rfl⟩) ?_
 refine take1 (i:=18) (d:=76) (v:=undef) rfl rfl (by kernel_rfl) (by kernel_rfl) (by kernel_rfl) (fun _ _ _ h=>h) (Or.inr ⟨by kernel_rfl,rfl⟩) ?_
 refine take1 (i:=19) (d:=77) (v:=undef) rfl rfl (by kernel_rfl) (by kernel_rfl) (by kernel_rfl) (fun _ _ _ h=>h) (Or.inr ⟨by kernel_rfl,rfl⟩) ?_
 refine take1 (i:=20) (d:=78) (v:=undef) rfl rfl (by kernel_rfl) (by kernel_rfl) (by kernel_rfl) (fun _ _ _ h=>h) (Or.inr ⟨by kernel_rfl,rfl⟩) ?_
 refine take1 (i:=21) (d:=79) (v:=undef) rfl rfl (by kernel_rfl) (by kernel_rfl) (by kernel_rfl) (fun _ _ _ h=>h) (Or.inr ⟨by kernel_rfl,rfl⟩) ?_
 refine take1 (i:=22) (d:=80) (v:=.bool false) rfl rfl (by kernel_rfl) (by kernel_rfl) (by kernel_rfl) (fun _ _ _ h=>h) (Or.inl ⟨by kernel_rfl,fun _=>by kernel_rfl⟩) ?_
 refine take1 (i:=23) (d:=57) (v:=.bool false) rfl rfl (by kernel_rfl) (by kernel_rfl) (by kernel_rfl) (fun _ _ _ h=>h) (Or.inl ⟨by kernel_rfl,fun _=>by kernel_rfl⟩) ?_
 refine wpAny_done (by kernel_rfl) ?_ _
 simp only [List.setIfInBounds_toArray,List.set_cons_succ,List.set_cons_zero]
 go_wp2_with fail
 refine (HA.out _ (Below.grownBy' HG6.out) H6.out).mono ?_
 rintro e w7 (⟨k,n,s,t,A0,n0,m0,A1,n1,m1,A2,n2,m2,rfl,hr,hw⟩ | ⟨hF,nxF,hnF,rfl,dpF,hpF,hgF⟩)
 rotate_left
 ·exact ⟨rfl,.inr ⟨hF,nxF,hnF,rfl,dpF,hpF,grown_trans (Below.grownBy' HG6.out) hgF⟩⟩
 have HR:=Lib.hid hr
 have HP7:=Lib.hid hw.1
 have HG7:Hid (w.grownBy w7 (some b)):=grown_trans (Below.grownBy' HG6.out) hw.2
 have hz6:w.heap.size < w6.heap.size:=HE6.out.lt
 have HE7:=Lib.hid (HE6.out.kept hw.2 (by simp;omega))
 have e0:=HE7.out.c0
 have e1:=HE7.out.c1
 have e2:=HE7.out.c2
 have e3:=HE7.out.c3
 have e4:=HE7.out.c4
 have e5:=HE7.out.c5
 have e6:=HE7.out.c6
 have r0:=HE7.out.fr 0
 have r1:=HE7.out.fr 1
 have r2:=HE7.out.fr 2
 have r3:=HE7.out.fr 3
 have r4:=HE7.out.fr 4
 have r5:=HE7.out.fr 5
 have r6:=HE7.out.fr 6
 clear hr hw HA
 go_wp2_with fail
 exact bodyPost_retF (res_head rfl (HE7.out.all (.int .i64 k) (.int .i64 n) (.string s) (.string t) (.slice A0 n0 m0) (.slice A1 n1 m1) (.slice A2 n2 m2))) rfl
  ⟨k,n,s,t,A0,n0,m0,A1,n1,m1,A2,n2,m2,rfl,(HR.out.keep (Same.of_grown (set7_grown _ _ _ _ _ _ _ _ _) (fun x hx=>by simp;omega))).weaken (fun x hx=>by omega),
   HP7.out.kept (set7_grown _ _ _ _ _ _ _ _ _) (by simp;omega) (by simp;omega),grown_7 HG7.out (Nat.le_refl _) _ _ _ _ _ _ _⟩
set_option maxRecDepth 100000 in
set_option maxHeartbeats 2000000 in
theorem head_up {F:Prop}(b g go c:Nat)(ts:List Rt)(nx dp:Nat)(t:Rt)(nx1:Nat)(lf:Ex)(w:World)(h:PS w b g go c ts nx dp)(ht:ts[nx]?=some t)(hk:t.k=2)(hn:NoHead t)
  (HA:Hid (∀ w',w.grownBy w' (some b)→PS w' b g go c ts nx dp→Calls Tryz.prog 118 #[.pointer (some ⟨b,0,none⟩)] w' (OF F w' b g go c ts (ExprTo w' b g go c ts nx1 dp lf)))) :
  Calls Tryz.prog 116 #[.pointer (some ⟨b,0,none⟩)] w (OF F w b g go c ts (ExprTo w b g go c ts nx1 dp lf)):=by
 have hbl:=h.blt
 have hgl:=h.lt
 have HP:=Lib.hid (fun w h=>peek_any b g go c ts nx dp t w h ht)
 have HS:Hid (∀ (s:ByteArray) w,PS w b g go c ts nx dp→t.s≠s.data.toList→Calls Tryz.prog 114 #[.pointer (some ⟨b,0,none⟩),.string s] w fun e w'=>e=.returned (.bool false)∧Below w.heap.size w w'):=fun s w h h2=>skip_no b g go c ts nx dp t s w h ht h2
 have HN:=Lib.hid hn
 have H:=Lib.hid h
 have fl0:=tfield0
 obtain ⟨tk,tss,tn,tp⟩:=t
 simp only at hk HP HS HN
 subst hk
 obtain ⟨S,hS⟩:∃ S,S=strB tss:=⟨_,rfl⟩
 rw [← hS] at HP
 clear h ht hn hS
 go_enter Tryz.func116,Tryz.ntmps116
 go_wp2_with fail
 have H1:Hid (PS (w.alloc (.cells #[.int .i64 0,.int .i64 0,.string ⟨#[]⟩,.string ⟨#[]⟩,.slice none 0 0,.slice none 0 0,.slice none 0 0] 27)) b g go c ts nx dp):=H.out.below ((Below.refl _ _).alloc (Nat.le_refl _) _)
 have HE1:=Lib.hid (EB.new w (.int .i64 0) (.int .i64 0) (.string ⟨#[]⟩) (.string ⟨#[]⟩) (.slice none 0 0) (.slice none 0 0) (.slice none 0 0))
 have HG1:Hid (w.grownBy _ none):=World.grownBy_alloc w (.cells #[.int .i64 0,.int .i64 0,.string ⟨#[]⟩,.string ⟨#[]⟩,.slice none 0 0,.slice none 0 0,.slice none 0 0] 27) none
 refine (HS.out _ _ H1.out HN.out.1).mono ?_;rintro e w2 ⟨rfl,hb⟩
 have H2:=Lib.hid (H1.out.below hb)
 have HE2:=Lib.hid (HE1.out.kept (grown_below hb none) (by simp))
 have HG2:=Lib.hid (grown_trans HG1.out (grown_below hb none))
 clear hb H1 HE1 HG1
 go_wp2_with fail
 refine (HS.out _ _ H2.out HN.out.2.1).mono ?_;rintro e w3 ⟨rfl,hb⟩
 have H3:=Lib.hid (H2.out.below hb)
 have HE3:=Lib.hid (HE2.out.kept (grown_below hb none) (by simp))
 have HG3:=Lib.hid (grown_trans HG2.out (grown_below hb none))
 clear hb H2 HE2 HG2
 go_wp2_with fail
 refine (HS.out _ _ H3.out HN.out.2.2.1).mono ?_;rintro e w4 ⟨rfl,hb⟩
 have H4:=Lib.hid (H3.out.below hb)
 have HE4:=Lib.hid (HE3.out.kept (grown_below hb none) (by simp))
 have HG4:=Lib.hid (grown_trans HG3.out (grown_below hb none))
 clear hb H3 HE3 HG3
 go_wp2_with fail
 refine (HS.out _ _ H4.out HN.out.2.2.2).mono ?_;rintro e w5 ⟨rfl,hb⟩
 have H5:=Lib.hid (H4.out.below hb)
 have HE5:=Lib.hid (HE4.out.kept (grown_below hb none) (by simp))
 have HG5:=Lib.hid (grown_trans HG4.out (grown_below hb none))
 clear hb H4 HE4 HG4
 go_wp2_with fail
 refine wp_region_any (by kernel_rfl) ?_
 change wpAny _ _ _ _ _ _ _ (World.drew _)
 refine take1 (i:=0) (d:=58) (v:=.pointer (some ⟨b,0,none⟩)) rfl rfl (by kernel_rfl) (by kernel_rfl) (by kernel_rfl) (fun _ _ _ h=>h) (Or.inl ⟨by kernel_rfl,fun _=>by kernel_rfl⟩) ?_
 refine take1 (i:=1) (d:=59) (v:=.pointer (some ⟨b,0,none⟩)) rfl rfl (by kernel_rfl) (by kernel_rfl) (by kernel_rfl) (fun _ _ _ h=>h) (Or.inl ⟨by kernel_rfl,fun _=>by kernel_rfl⟩) ?_
 refine take1 (i:=2) (d:=60) (v:=.pointer (some ⟨b,0,none⟩)) rfl rfl (by kernel_rfl) (by kernel_rfl) (by kernel_rfl) (fun _ _ _ h=>h) (Or.inl ⟨by kernel_rfl,fun _=>by kernel_rfl⟩) ?_
 refine wpAny_ready (rs:=[3]) (by kernel_rfl) (by simp) (AllReady.cons rfl (fun K hK=>?_) AllReady.nil)
 go_simp
 refine (HP.out _ (H5.out.drewN 1)).mono ?_;rintro e w6 ⟨rfl,hb⟩
 have H6:=Lib.hid ((H5.out.drewN 1).below hb)
 have HE6:=Lib.hid (HE5.out.kept (grown_trans (grown_drewN w5 1 none) (grown_below hb none)) (by simp))
 have HG6:=Lib.hid (grown_trans HG5.out (grown_trans (grown_drewN w5 1 none) (grown_below hb none)))
 clear hb
 refine hK _ _ ?_
 clear hK K
 refine take1 (i:=4) (d:=62) (v:=.int .i64 2) rfl rfl (by kernel_rfl) (by kernel_rfl) (by kernel_rfl) (fun _ _ _ h=>h) (Or.inl ⟨by kernel_rfl,fun _=>by kernel_rfl⟩) ?_
 refine take1 (i:=5) (d:=63) (v:=.bool false) rfl rfl (by kernel_rfl) (by kernel_rfl) (by kernel_rfl) (fun _ _ _ h=>h) (Or.inl ⟨by kernel_rfl,fun _=>by kernel_rfl⟩) ?_
 refine take1 (i:=6) (d:=64) (v:=.bool false) rfl rfl (by kernel_rfl) (by kernel_rfl) (by kernel_rfl) (fun _ _ _ h=>h) (Or.inl ⟨by kernel_rfl,fun _=>by kernel_rfl⟩) ?_
 refine take1 (i:=7) (d:=65) (v:=undef) rfl rfl (by kernel_rfl) (by kernel_rfl) (by kernel_rfl) (fun _ _ _ h=>h) (Or.inr ⟨by kernel_rfl,rfl⟩) ?_
 refine take1 (i:=8) (d:=66) (v:=undef) rfl rfl (by kernel_rfl) (by kernel_rfl) (by kernel_rfl) (fun _ _ _ h=>h) (Or.inr ⟨by kernel_rfl,rfl⟩) ?_
 refine take1 (i:=9) (d:=67) (v:=undef) rfl rfl (by kernel_rfl) (by kernel_rfl) (by kernel_rfl) (fun _ _ _ h=>h) (Or.inr ⟨by kernel_rfl,rfl⟩) ?_
 refine take1 (i:=10) (d:=68) (v:=undef) rfl rfl (by kernel_rfl) (by kernel_rfl) (by kernel_rfl) (fun _ _ _ h=>h) (Or.inr ⟨by kernel_rfl,rfl⟩) ?_
 refine take1 (i:=11) (d:=69) (v:=undef) rfl rfl (by kernel_rfl) (by kernel_rfl) (by kernel_rfl) (fun _ _ _ h=>h) (Or.inr ⟨by kernel_rfl,rfl⟩) ?_
 refine take1 (i:=12) (d:=70) (v:=undef) rfl rfl (by kernel_rfl) (by kernel_rfl) (by kernel_rfl) (fun _ _ _ h=>h) (Or.inr ⟨by kernel_rfl,rfl⟩) ?_
 refine take1 (i:=13) (d:=71) (v:=undef) rfl rfl (by kernel_rfl) (by kernel_rfl) (by kernel_rfl) (fun _ _ _ h=>h) (Or.inr ⟨by kernel_rfl,rfl⟩) ?_
 refine take1 (i:=14) (d:=72) (v:=undef) rfl rfl (by kernel_rfl) (by kernel_rfl) (by kernel_rfl) (fun _ _ _ h=>h) (Or.inr ⟨by kernel_rfl,rfl⟩) ?_
 refine take1 (i:=15) (d:=73) (v:=undef) rfl rfl (by kernel_rfl) (by kernel_rfl) (by kernel_rfl) (fun _ _ _ h=>h) (Or.inr ⟨by kernel_rfl,rfl⟩) ?_
 refine take1 (i:=16) (d:=74) (v:=undef) rfl rfl (by kernel_rfl) (by kernel_rfl) (by kernel_rfl) (fun _ _ _ h=>h) (Or.inr ⟨by kernel_rfl,rfl⟩) ?_
 refine take1 (i:=17) (d:=75) (v:=undef) rfl rfl (by kernel_rfl) (by kernel_rfl) (by kernel_rfl) (fun _ _ _ h=>h) (Or.inr ⟨by kernel_rfl,rfl⟩) ?_
 refine take1 (i:=18) (d:=76) (v:=undef) rfl rfl (by kernel_rfl) (by kernel_rfl) (by kernel_rfl) (fun _ _ _ h=>h) (Or.inr ⟨by kernel_rfl,rfl⟩) ?_
 refine take1 (i:=19) (d:=77) (v:=undef) rfl rfl (by kernel_rfl) (by kernel_rfl) (by kernel_rfl) (fun _ _ _ h=>h) (Or.inr ⟨by kernel_rfl,rfl⟩) ?_
 refine take1 (i:=20) (d:=78) (v:=undef) rfl rfl (by kernel_rfl) (by kernel_rfl) (by kernel_rfl) (fun _ _ _ h=>h) (Or.inr ⟨by kernel_rfl,rfl⟩) ?_
 refine take1 (i:=21) (d:=79) (v:=undef) rfl rfl (by kernel_rfl) (by kernel_rfl) (by kernel_rfl) (fun _ _ _ h=>h) (Or.inr ⟨by kernel_rfl,rfl⟩) ?_
 refine take1 (i:=22) (d:=80) (v:=.bool false) rfl rfl (by kernel_rfl) (by kernel_rfl) (by kernel_rfl) (fun _ _ _ h=>h) (Or.inl ⟨by kernel_rfl,fun _=>by kernel_rfl⟩) ?_
 refine take1 (i:=23) (d:=57) (v:=.bool false) rfl rfl (by kernel_rfl) (by kernel_rfl) (by kernel_rfl) (fun _ _ _ h=>h) (Or.inl ⟨by kernel_rfl,fun _=>by kernel_rfl⟩) ?_
 refine wpAny_done (by kernel_rfl) ?_ _
 simp only [List.setIfInBounds_toArray,List.set_cons_succ,List.set_cons_zero]
 go_wp2_with fail
 refine (HA.out _ (Below.grownBy' HG6.out) H6.out).mono ?_
 rintro e w7 (⟨k,n,s,t,A0,n0,m0,A1,n1,m1,A2,n2,m2,rfl,hr,hw⟩ | ⟨hF,nxF,hnF,rfl,dpF,hpF,hgF⟩)
 rotate_left
 ·exact ⟨rfl,.inr ⟨hF,nxF,hnF,rfl,dpF,hpF,grown_trans (Below.grownBy' HG6.out) hgF⟩⟩
 have HR:=Lib.hid hr
 have HP7:=Lib.hid hw.1
 have HG7:Hid (w.grownBy w7 (some b)):=grown_trans (Below.grownBy' HG6.out) hw.2
 have hz6:w.heap.size < w6.heap.size:=HE6.out.lt
 have HE7:=Lib.hid (HE6.out.kept hw.2 (by simp;omega))
 have e0:=HE7.out.c0
 have e1:=HE7.out.c1
 have e2:=HE7.out.c2
 have e3:=HE7.out.c3
 have e4:=HE7.out.c4
 have e5:=HE7.out.c5
 have e6:=HE7.out.c6
 have r0:=HE7.out.fr 0
 have r1:=HE7.out.fr 1
 have r2:=HE7.out.fr 2
 have r3:=HE7.out.fr 3
 have r4:=HE7.out.fr 4
 have r5:=HE7.out.fr 5
 have r6:=HE7.out.fr 6
 clear hr hw HA
 go_wp2_with fail
 exact bodyPost_retF (res_head rfl (HE7.out.all (.int .i64 k) (.int .i64 n) (.string s) (.string t) (.slice A0 n0 m0) (.slice A1 n1 m1) (.slice A2 n2 m2))) rfl
  ⟨k,n,s,t,A0,n0,m0,A1,n1,m1,A2,n2,m2,rfl,(HR.out.keep (Same.of_grown (set7_grown _ _ _ _ _ _ _ _ _) (fun x hx=>by simp;omega))).weaken (fun x hx=>by omega),
   HP7.out.kept (set7_grown _ _ _ _ _ _ _ _ _) (by simp;omega) (by simp;omega),grown_7 HG7.out (Nat.le_refl _) _ _ _ _ _ _ _⟩
set_option maxRecDepth 100000 in
set_option maxHeartbeats 2000000 in
theorem head_num {F:Prop}(b g go c:Nat)(ts:List Rt)(nx dp:Nat)(t:Rt)(nx1:Nat)(lf:Ex)(w:World)(h:PS w b g go c ts nx dp)(ht:ts[nx]?=some t)(hk:t.k=3)(hn:NoHead t)
  (HA:Hid (∀ w',w.grownBy w' (some b)→PS w' b g go c ts nx dp→Calls Tryz.prog 118 #[.pointer (some ⟨b,0,none⟩)] w' (OF F w' b g go c ts (ExprTo w' b g go c ts nx1 dp lf)))) :
  Calls Tryz.prog 116 #[.pointer (some ⟨b,0,none⟩)] w (OF F w b g go c ts (ExprTo w b g go c ts nx1 dp lf)):=by
 have hbl:=h.blt
 have hgl:=h.lt
 have HP:=Lib.hid (fun w h=>peek_any b g go c ts nx dp t w h ht)
 have HS:Hid (∀ (s:ByteArray) w,PS w b g go c ts nx dp→t.s≠s.data.toList→Calls Tryz.prog 114 #[.pointer (some ⟨b,0,none⟩),.string s] w fun e w'=>e=.returned (.bool false)∧Below w.heap.size w w'):=fun s w h h2=>skip_no b g go c ts nx dp t s w h ht h2
 have HN:=Lib.hid hn
 have H:=Lib.hid h
 have fl0:=tfield0
 obtain ⟨tk,tss,tn,tp⟩:=t
 simp only at hk HP HS HN
 subst hk
 obtain ⟨S,hS⟩:∃ S,S=strB tss:=⟨_,rfl⟩
 rw [← hS] at HP
 clear h ht hn hS
 go_enter Tryz.func116,Tryz.ntmps116
 go_wp2_with fail
 have H1:Hid (PS (w.alloc (.cells #[.int .i64 0,.int .i64 0,.string ⟨#[]⟩,.string ⟨#[]⟩,.slice none 0 0,.slice none 0 0,.slice none 0 0] 27)) b g go c ts nx dp):=H.out.below ((Below.refl _ _).alloc (Nat.le_refl _) _)
 have HE1:=Lib.hid (EB.new w (.int .i64 0) (.int .i64 0) (.string ⟨#[]⟩) (.string ⟨#[]⟩) (.slice none 0 0) (.slice none 0 0) (.slice none 0 0))
 have HG1:Hid (w.grownBy _ none):=World.grownBy_alloc w (.cells #[.int .i64 0,.int .i64 0,.string ⟨#[]⟩,.string ⟨#[]⟩,.slice none 0 0,.slice none 0 0,.slice none 0 0] 27) none
 refine (HS.out _ _ H1.out HN.out.1).mono ?_;rintro e w2 ⟨rfl,hb⟩
 have H2:=Lib.hid (H1.out.below hb)
 have HE2:=Lib.hid (HE1.out.kept (grown_below hb none) (by simp))
 have HG2:=Lib.hid (grown_trans HG1.out (grown_below hb none))
 clear hb H1 HE1 HG1
 go_wp2_with fail
 refine (HS.out _ _ H2.out HN.out.2.1).mono ?_;rintro e w3 ⟨rfl,hb⟩
 have H3:=Lib.hid (H2.out.below hb)
 have HE3:=Lib.hid (HE2.out.kept (grown_below hb none) (by simp))
 have HG3:=Lib.hid (grown_trans HG2.out (grown_below hb none))
 clear hb H2 HE2 HG2
 go_wp2_with fail
 refine (HS.out _ _ H3.out HN.out.2.2.1).mono ?_;rintro e w4 ⟨rfl,hb⟩
 have H4:=Lib.hid (H3.out.below hb)
 have HE4:=Lib.hid (HE3.out.kept (grown_below hb none) (by simp))
 have HG4:=Lib.hid (grown_trans HG3.out (grown_below hb none))
 clear hb H3 HE3 HG3
 go_wp2_with fail
 refine (HS.out _ _ H4.out HN.out.2.2.2).mono ?_;rintro e w5 ⟨rfl,hb⟩
 have H5:=Lib.hid (H4.out.below hb)
 have HE5:=Lib.hid (HE4.out.kept (grown_below hb none) (by simp))
 have HG5:=Lib.hid (grown_trans HG4.out (grown_below hb none))
 clear hb H4 HE4 HG4
 go_wp2_with fail
 refine wp_region_any (by kernel_rfl) ?_
 change wpAny _ _ _ _ _ _ _ (World.drew _)
 refine take1 (i:=0) (d:=58) (v:=.pointer (some ⟨b,0,none⟩)) rfl rfl (by kernel_rfl) (by kernel_rfl) (by kernel_rfl) (fun _ _ _ h=>h) (Or.inl ⟨by kernel_rfl,fun _=>by kernel_rfl⟩) ?_
 refine take1 (i:=1) (d:=59) (v:=.pointer (some ⟨b,0,none⟩)) rfl rfl (by kernel_rfl) (by kernel_rfl) (by kernel_rfl) (fun _ _ _ h=>h) (Or.inl ⟨by kernel_rfl,fun _=>by kernel_rfl⟩) ?_
 refine take1 (i:=2) (d:=60) (v:=.pointer (some ⟨b,0,none⟩)) rfl rfl (by kernel_rfl) (by kernel_rfl) (by kernel_rfl) (fun _ _ _ h=>h) (Or.inl ⟨by kernel_rfl,fun _=>by kernel_rfl⟩) ?_
 refine wpAny_ready (rs:=[3]) (by kernel_rfl) (by simp) (AllReady.cons rfl (fun K hK=>?_) AllReady.nil)
 go_simp
 refine (HP.out _ (H5.out.drewN 1)).mono ?_;rintro e w6 ⟨rfl,hb⟩
 have H6:=Lib.hid ((H5.out.drewN 1).below hb)
 have HE6:=Lib.hid (HE5.out.kept (grown_trans (grown_drewN w5 1 none) (grown_below hb none)) (by simp))
 have HG6:=Lib.hid (grown_trans HG5.out (grown_trans (grown_drewN w5 1 none) (grown_below hb none)))
 clear hb
 refine hK _ _ ?_
 clear hK K
 refine take1 (i:=4) (d:=62) (v:=.int .i64 3) rfl rfl (by kernel_rfl) (by kernel_rfl) (by kernel_rfl) (fun _ _ _ h=>h) (Or.inl ⟨by kernel_rfl,fun _=>by kernel_rfl⟩) ?_
 refine take1 (i:=5) (d:=63) (v:=.bool false) rfl rfl (by kernel_rfl) (by kernel_rfl) (by kernel_rfl) (fun _ _ _ h=>h) (Or.inl ⟨by kernel_rfl,fun _=>by kernel_rfl⟩) ?_
 refine take1 (i:=6) (d:=64) (v:=.bool false) rfl rfl (by kernel_rfl) (by kernel_rfl) (by kernel_rfl) (fun _ _ _ h=>h) (Or.inl ⟨by kernel_rfl,fun _=>by kernel_rfl⟩) ?_
 refine take1 (i:=7) (d:=65) (v:=undef) rfl rfl (by kernel_rfl) (by kernel_rfl) (by kernel_rfl) (fun _ _ _ h=>h) (Or.inr ⟨by kernel_rfl,rfl⟩) ?_
 refine take1 (i:=8) (d:=66) (v:=undef) rfl rfl (by kernel_rfl) (by kernel_rfl) (by kernel_rfl) (fun _ _ _ h=>h) (Or.inr ⟨by kernel_rfl,rfl⟩) ?_
 refine take1 (i:=9) (d:=67) (v:=undef) rfl rfl (by kernel_rfl) (by kernel_rfl) (by kernel_rfl) (fun _ _ _ h=>h) (Or.inr ⟨by kernel_rfl,rfl⟩) ?_
 refine take1 (i:=10) (d:=68) (v:=undef) rfl rfl (by kernel_rfl) (by kernel_rfl) (by kernel_rfl) (fun _ _ _ h=>h) (Or.inr ⟨by kernel_rfl,rfl⟩) ?_
 refine take1 (i:=11) (d:=69) (v:=undef) rfl rfl (by kernel_rfl) (by kernel_rfl) (by kernel_rfl) (fun _ _ _ h=>h) (Or.inr ⟨by kernel_rfl,rfl⟩) ?_
 refine take1 (i:=12) (d:=70) (v:=undef) rfl rfl (by kernel_rfl) (by kernel_rfl) (by kernel_rfl) (fun _ _ _ h=>h) (Or.inr ⟨by kernel_rfl,rfl⟩) ?_
 refine take1 (i:=13) (d:=71) (v:=undef) rfl rfl (by kernel_rfl) (by kernel_rfl) (by kernel_rfl) (fun _ _ _ h=>h) (Or.inr ⟨by kernel_rfl,rfl⟩) ?_
 refine take1 (i:=14) (d:=72) (v:=undef) rfl rfl (by kernel_rfl) (by kernel_rfl) (by kernel_rfl) (fun _ _ _ h=>h) (Or.inr ⟨by kernel_rfl,rfl⟩) ?_
 refine take1 (i:=15) (d:=73) (v:=undef) rfl rfl (by kernel_rfl) (by kernel_rfl) (by kernel_rfl) (fun _ _ _ h=>h) (Or.inr ⟨by kernel_rfl,rfl⟩) ?_
 refine take1 (i:=16) (d:=74) (v:=undef) rfl rfl (by kernel_rfl) (by kernel_rfl) (by kernel_rfl) (fun _ _ _ h=>h) (Or.inr ⟨by kernel_rfl,rfl⟩) ?_
 refine take1 (i:=17) (d:=75) (v:=undef) rfl rfl (by kernel_rfl) (by kernel_rfl) (by kernel_rfl) (fun _ _ _ h=>h) (Or.inr ⟨by kernel_rfl,rfl⟩) ?_
 refine take1 (i:=18) (d:=76) (v:=undef) rfl rfl (by kernel_rfl) (by kernel_rfl) (by kernel_rfl) (fun _ _ _ h=>h) (Or.inr ⟨by kernel_rfl,rfl⟩) ?_
 refine take1 (i:=19) (d:=77) (v:=undef) rfl rfl (by kernel_rfl) (by kernel_rfl) (by kernel_rfl) (fun _ _ _ h=>h) (Or.inr ⟨by kernel_rfl,rfl⟩) ?_
 refine take1 (i:=20) (d:=78) (v:=undef) rfl rfl (by kernel_rfl) (by kernel_rfl) (by kernel_rfl) (fun _ _ _ h=>h) (Or.inr ⟨by kernel_rfl,rfl⟩) ?_
 refine take1 (i:=21) (d:=79) (v:=undef) rfl rfl (by kernel_rfl) (by kernel_rfl) (by kernel_rfl) (fun _ _ _ h=>h) (Or.inr ⟨by kernel_rfl,rfl⟩) ?_
 refine take1 (i:=22) (d:=80) (v:=.bool false) rfl rfl (by kernel_rfl) (by kernel_rfl) (by kernel_rfl) (fun _ _ _ h=>h) (Or.inl ⟨by kernel_rfl,fun _=>by kernel_rfl⟩) ?_
 refine take1 (i:=23) (d:=57) (v:=.bool false) rfl rfl (by kernel_rfl) (by kernel_rfl) (by kernel_rfl) (fun _ _ _ h=>h) (Or.inl ⟨by kernel_rfl,fun _=>by kernel_rfl⟩) ?_
 refine wpAny_done (by kernel_rfl) ?_ _
 simp only [List.setIfInBounds_toArray,List.set_cons_succ,List.set_cons_zero]
 go_wp2_with fail
 refine (HA.out _ (Below.grownBy' HG6.out) H6.out).mono ?_
 rintro e w7 (⟨k,n,s,t,A0,n0,m0,A1,n1,m1,A2,n2,m2,rfl,hr,hw⟩ | ⟨hF,nxF,hnF,rfl,dpF,hpF,hgF⟩)
 rotate_left
 ·exact ⟨rfl,.inr ⟨hF,nxF,hnF,rfl,dpF,hpF,grown_trans (Below.grownBy' HG6.out) hgF⟩⟩
 have HR:=Lib.hid hr
 have HP7:=Lib.hid hw.1
 have HG7:Hid (w.grownBy w7 (some b)):=grown_trans (Below.grownBy' HG6.out) hw.2
 have hz6:w.heap.size < w6.heap.size:=HE6.out.lt
 have HE7:=Lib.hid (HE6.out.kept hw.2 (by simp;omega))
 have e0:=HE7.out.c0
 have e1:=HE7.out.c1
 have e2:=HE7.out.c2
 have e3:=HE7.out.c3
 have e4:=HE7.out.c4
 have e5:=HE7.out.c5
 have e6:=HE7.out.c6
 have r0:=HE7.out.fr 0
 have r1:=HE7.out.fr 1
 have r2:=HE7.out.fr 2
 have r3:=HE7.out.fr 3
 have r4:=HE7.out.fr 4
 have r5:=HE7.out.fr 5
 have r6:=HE7.out.fr 6
 clear hr hw HA
 go_wp2_with fail
 exact bodyPost_retF (res_head rfl (HE7.out.all (.int .i64 k) (.int .i64 n) (.string s) (.string t) (.slice A0 n0 m0) (.slice A1 n1 m1) (.slice A2 n2 m2))) rfl
  ⟨k,n,s,t,A0,n0,m0,A1,n1,m1,A2,n2,m2,rfl,(HR.out.keep (Same.of_grown (set7_grown _ _ _ _ _ _ _ _ _) (fun x hx=>by simp;omega))).weaken (fun x hx=>by omega),
   HP7.out.kept (set7_grown _ _ _ _ _ _ _ _ _) (by simp;omega) (by simp;omega),grown_7 HG7.out (Nat.le_refl _) _ _ _ _ _ _ _⟩
set_option maxRecDepth 100000 in
set_option maxHeartbeats 2000000 in
theorem head_sym {F:Prop}(b g go c:Nat)(ts:List Rt)(nx dp:Nat)(t:Rt)(nx1:Nat)(lf:Ex)(w:World)(h:PS w b g go c ts nx dp)(ht:ts[nx]?=some t)(hk:t.k=4)(hn:NoHead t)
  (HA:Hid (∀ w',w.grownBy w' (some b)→PS w' b g go c ts nx dp→Calls Tryz.prog 118 #[.pointer (some ⟨b,0,none⟩)] w' (OF F w' b g go c ts (ExprTo w' b g go c ts nx1 dp lf)))) :
  Calls Tryz.prog 116 #[.pointer (some ⟨b,0,none⟩)] w (OF F w b g go c ts (ExprTo w b g go c ts nx1 dp lf)):=by
 have hbl:=h.blt
 have hgl:=h.lt
 have HP:=Lib.hid (fun w h=>peek_any b g go c ts nx dp t w h ht)
 have HS:Hid (∀ (s:ByteArray) w,PS w b g go c ts nx dp→t.s≠s.data.toList→Calls Tryz.prog 114 #[.pointer (some ⟨b,0,none⟩),.string s] w fun e w'=>e=.returned (.bool false)∧Below w.heap.size w w'):=fun s w h h2=>skip_no b g go c ts nx dp t s w h ht h2
 have HN:=Lib.hid hn
 have H:=Lib.hid h
 have fl0:=tfield0
 obtain ⟨tk,tss,tn,tp⟩:=t
 simp only at hk HP HS HN
 subst hk
 obtain ⟨S,hS⟩:∃ S,S=strB tss:=⟨_,rfl⟩
 rw [← hS] at HP
 clear h ht hn hS
 go_enter Tryz.func116,Tryz.ntmps116
 go_wp2_with fail
 have H1:Hid (PS (w.alloc (.cells #[.int .i64 0,.int .i64 0,.string ⟨#[]⟩,.string ⟨#[]⟩,.slice none 0 0,.slice none 0 0,.slice none 0 0] 27)) b g go c ts nx dp):=H.out.below ((Below.refl _ _).alloc (Nat.le_refl _) _)
 have HE1:=Lib.hid (EB.new w (.int .i64 0) (.int .i64 0) (.string ⟨#[]⟩) (.string ⟨#[]⟩) (.slice none 0 0) (.slice none 0 0) (.slice none 0 0))
 have HG1:Hid (w.grownBy _ none):=World.grownBy_alloc w (.cells #[.int .i64 0,.int .i64 0,.string ⟨#[]⟩,.string ⟨#[]⟩,.slice none 0 0,.slice none 0 0,.slice none 0 0] 27) none
 refine (HS.out _ _ H1.out HN.out.1).mono ?_;rintro e w2 ⟨rfl,hb⟩
 have H2:=Lib.hid (H1.out.below hb)
 have HE2:=Lib.hid (HE1.out.kept (grown_below hb none) (by simp))
 have HG2:=Lib.hid (grown_trans HG1.out (grown_below hb none))
 clear hb H1 HE1 HG1
 go_wp2_with fail
 refine (HS.out _ _ H2.out HN.out.2.1).mono ?_;rintro e w3 ⟨rfl,hb⟩
 have H3:=Lib.hid (H2.out.below hb)
 have HE3:=Lib.hid (HE2.out.kept (grown_below hb none) (by simp))
 have HG3:=Lib.hid (grown_trans HG2.out (grown_below hb none))
 clear hb H2 HE2 HG2
 go_wp2_with fail
 refine (HS.out _ _ H3.out HN.out.2.2.1).mono ?_;rintro e w4 ⟨rfl,hb⟩
 have H4:=Lib.hid (H3.out.below hb)
 have HE4:=Lib.hid (HE3.out.kept (grown_below hb none) (by simp))
 have HG4:=Lib.hid (grown_trans HG3.out (grown_below hb none))
 clear hb H3 HE3 HG3
 go_wp2_with fail
 refine (HS.out _ _ H4.out HN.out.2.2.2).mono ?_;rintro e w5 ⟨rfl,hb⟩
 have H5:=Lib.hid (H4.out.below hb)
 have HE5:=Lib.hid (HE4.out.kept (grown_below hb none) (by simp))
 have HG5:=Lib.hid (grown_trans HG4.out (grown_below hb none))
 clear hb H4 HE4 HG4
 go_wp2_with fail
 refine wp_region_any (by kernel_rfl) ?_
 change wpAny _ _ _ _ _ _ _ (World.drew _)
 refine take1 (i:=0) (d:=58) (v:=.pointer (some ⟨b,0,none⟩)) rfl rfl (by kernel_rfl) (by kernel_rfl) (by kernel_rfl) (fun _ _ _ h=>h) (Or.inl ⟨by kernel_rfl,fun _=>by kernel_rfl⟩) ?_
 refine take1 (i:=1) (d:=59) (v:=.pointer (some ⟨b,0,none⟩)) rfl rfl (by kernel_rfl) (by kernel_rfl) (by kernel_rfl) (fun _ _ _ h=>h) (Or.inl ⟨by kernel_rfl,fun _=>by kernel_rfl⟩) ?_
 refine take1 (i:=2) (d:=60) (v:=.pointer (some ⟨b,0,none⟩)) rfl rfl (by kernel_rfl) (by kernel_rfl) (by kernel_rfl) (fun _ _ _ h=>h) (Or.inl ⟨by kernel_rfl,fun _=>by kernel_rfl⟩) ?_
 refine wpAny_ready (rs:=[3]) (by kernel_rfl) (by simp) (AllReady.cons rfl (fun K hK=>?_) AllReady.nil)
 go_simp
 refine (HP.out _ (H5.out.drewN 1)).mono ?_;rintro e w6 ⟨rfl,hb⟩
 have H6:=Lib.hid ((H5.out.drewN 1).below hb)
 have HE6:=Lib.hid (HE5.out.kept (grown_trans (grown_drewN w5 1 none) (grown_below hb none)) (by simp))
 have HG6:=Lib.hid (grown_trans HG5.out (grown_trans (grown_drewN w5 1 none) (grown_below hb none)))
 clear hb
 refine hK _ _ ?_
 clear hK K
 refine take1 (i:=4) (d:=62) (v:=.int .i64 4) rfl rfl (by kernel_rfl) (by kernel_rfl) (by kernel_rfl) (fun _ _ _ h=>h) (Or.inl ⟨by kernel_rfl,fun _=>by kernel_rfl⟩) ?_
 refine take1 (i:=5) (d:=63) (v:=.bool false) rfl rfl (by kernel_rfl) (by kernel_rfl) (by kernel_rfl) (fun _ _ _ h=>h) (Or.inl ⟨by kernel_rfl,fun _=>by kernel_rfl⟩) ?_
 refine take1 (i:=6) (d:=64) (v:=.bool false) rfl rfl (by kernel_rfl) (by kernel_rfl) (by kernel_rfl) (fun _ _ _ h=>h) (Or.inl ⟨by kernel_rfl,fun _=>by kernel_rfl⟩) ?_
 refine take1 (i:=7) (d:=65) (v:=undef) rfl rfl (by kernel_rfl) (by kernel_rfl) (by kernel_rfl) (fun _ _ _ h=>h) (Or.inr ⟨by kernel_rfl,rfl⟩) ?_
 refine take1 (i:=8) (d:=66) (v:=undef) rfl rfl (by kernel_rfl) (by kernel_rfl) (by kernel_rfl) (fun _ _ _ h=>h) (Or.inr ⟨by kernel_rfl,rfl⟩) ?_
 refine take1 (i:=9) (d:=67) (v:=undef) rfl rfl (by kernel_rfl) (by kernel_rfl) (by kernel_rfl) (fun _ _ _ h=>h) (Or.inr ⟨by kernel_rfl,rfl⟩) ?_
 refine take1 (i:=10) (d:=68) (v:=undef) rfl rfl (by kernel_rfl) (by kernel_rfl) (by kernel_rfl) (fun _ _ _ h=>h) (Or.inr ⟨by kernel_rfl,rfl⟩) ?_
 refine take1 (i:=11) (d:=69) (v:=undef) rfl rfl (by kernel_rfl) (by kernel_rfl) (by kernel_rfl) (fun _ _ _ h=>h) (Or.inr ⟨by kernel_rfl,rfl⟩) ?_
 refine take1 (i:=12) (d:=70) (v:=undef) rfl rfl (by kernel_rfl) (by kernel_rfl) (by kernel_rfl) (fun _ _ _ h=>h) (Or.inr ⟨by kernel_rfl,rfl⟩) ?_
 refine take1 (i:=13) (d:=71) (v:=undef) rfl rfl (by kernel_rfl) (by kernel_rfl) (by kernel_rfl) (fun _ _ _ h=>h) (Or.inr ⟨by kernel_rfl,rfl⟩) ?_
 refine take1 (i:=14) (d:=72) (v:=undef) rfl rfl (by kernel_rfl) (by kernel_rfl) (by kernel_rfl) (fun _ _ _ h=>h) (Or.inr ⟨by kernel_rfl,rfl⟩) ?_
 refine take1 (i:=15) (d:=73) (v:=undef) rfl rfl (by kernel_rfl) (by kernel_rfl) (by kernel_rfl) (fun _ _ _ h=>h) (Or.inr ⟨by kernel_rfl,rfl⟩) ?_
 refine take1 (i:=16) (d:=74) (v:=undef) rfl rfl (by kernel_rfl) (by kernel_rfl) (by kernel_rfl) (fun _ _ _ h=>h) (Or.inr ⟨by kernel_rfl,rfl⟩) ?_
 refine take1 (i:=17) (d:=75) (v:=undef) rfl rfl (by kernel_rfl) (by kernel_rfl) (by kernel_rfl) (fun _ _ _ h=>h) (Or.inr ⟨by kernel_rfl,rfl⟩) ?_
 refine take1 (i:=18) (d:=76) (v:=undef) rfl rfl (by kernel_rfl) (by kernel_rfl) (by kernel_rfl) (fun _ _ _ h=>h) (Or.inr ⟨by kernel_rfl,rfl⟩) ?_
 refine take1 (i:=19) (d:=77) (v:=undef) rfl rfl (by kernel_rfl) (by kernel_rfl) (by kernel_rfl) (fun _ _ _ h=>h) (Or.inr ⟨by kernel_rfl,rfl⟩) ?_
 refine take1 (i:=20) (d:=78) (v:=undef) rfl rfl (by kernel_rfl) (by kernel_rfl) (by kernel_rfl) (fun _ _ _ h=>h) (Or.inr ⟨by kernel_rfl,rfl⟩) ?_
 refine take1 (i:=21) (d:=79) (v:=undef) rfl rfl (by kernel_rfl) (by kernel_rfl) (by kernel_rfl) (fun _ _ _ h=>h) (Or.inr ⟨by kernel_rfl,rfl⟩) ?_
 refine take1 (i:=22) (d:=80) (v:=.bool false) rfl rfl (by kernel_rfl) (by kernel_rfl) (by kernel_rfl) (fun _ _ _ h=>h) (Or.inl ⟨by kernel_rfl,fun _=>by kernel_rfl⟩) ?_
 refine take1 (i:=23) (d:=57) (v:=.bool false) rfl rfl (by kernel_rfl) (by kernel_rfl) (by kernel_rfl) (fun _ _ _ h=>h) (Or.inl ⟨by kernel_rfl,fun _=>by kernel_rfl⟩) ?_
 refine wpAny_done (by kernel_rfl) ?_ _
 simp only [List.setIfInBounds_toArray,List.set_cons_succ,List.set_cons_zero]
 go_wp2_with fail
 refine (HA.out _ (Below.grownBy' HG6.out) H6.out).mono ?_
 rintro e w7 (⟨k,n,s,t,A0,n0,m0,A1,n1,m1,A2,n2,m2,rfl,hr,hw⟩ | ⟨hF,nxF,hnF,rfl,dpF,hpF,hgF⟩)
 rotate_left
 ·exact ⟨rfl,.inr ⟨hF,nxF,hnF,rfl,dpF,hpF,grown_trans (Below.grownBy' HG6.out) hgF⟩⟩
 have HR:=Lib.hid hr
 have HP7:=Lib.hid hw.1
 have HG7:Hid (w.grownBy w7 (some b)):=grown_trans (Below.grownBy' HG6.out) hw.2
 have hz6:w.heap.size < w6.heap.size:=HE6.out.lt
 have HE7:=Lib.hid (HE6.out.kept hw.2 (by simp;omega))
 have e0:=HE7.out.c0
 have e1:=HE7.out.c1
 have e2:=HE7.out.c2
 have e3:=HE7.out.c3
 have e4:=HE7.out.c4
 have e5:=HE7.out.c5
 have e6:=HE7.out.c6
 have r0:=HE7.out.fr 0
 have r1:=HE7.out.fr 1
 have r2:=HE7.out.fr 2
 have r3:=HE7.out.fr 3
 have r4:=HE7.out.fr 4
 have r5:=HE7.out.fr 5
 have r6:=HE7.out.fr 6
 clear hr hw HA
 go_wp2_with fail
 exact bodyPost_retF (res_head rfl (HE7.out.all (.int .i64 k) (.int .i64 n) (.string s) (.string t) (.slice A0 n0 m0) (.slice A1 n1 m1) (.slice A2 n2 m2))) rfl
  ⟨k,n,s,t,A0,n0,m0,A1,n1,m1,A2,n2,m2,rfl,(HR.out.keep (Same.of_grown (set7_grown _ _ _ _ _ _ _ _ _) (fun x hx=>by simp;omega))).weaken (fun x hx=>by omega),
   HP7.out.kept (set7_grown _ _ _ _ _ _ _ _ _) (by simp;omega) (by simp;omega),grown_7 HG7.out (Nat.le_refl _) _ _ _ _ _ _ _⟩
def YesAtom (t:Rt):Prop:=t.k=0∨t.k=2∨t.k=3∨t.s∈([[116,114,117,101],[102,97,108,115,101],[40],[109,97,116,99,104],[104,97,110,100,108,101],[115,104,97,108,108,111,119],[110,97,109,101,100]]:List (List UInt8))
set_option maxRecDepth 100000 in
set_option maxHeartbeats 2000000 in
theorem isAtom_yes (b g go c:Nat)(ts:List Rt)(nx dp:Nat)(t:Rt)(w:World)(h:PS w b g go c ts nx dp)(ht:ts[nx]?=some t)(hy:YesAtom t) :
  Calls Tryz.prog 117 #[.pointer (some ⟨b,0,none⟩)] w fun e w'=>e=.returned (.bool true)∧Below w.heap.size w w':=by
 have HP:=Lib.hid (peek_any b g go c ts nx dp t w h ht)
 have fl0:=tfield0
 have fl1:=tfield1
 unfold YesAtom at hy
 obtain ⟨tk,tss,tn,tp⟩:=t
 simp only at HP hy
 obtain ⟨S,hS⟩:∃ S,S=strB tss:=⟨_,rfl⟩
 rw [← hS] at HP
 clear h ht
 by_cases h0:tk=0
 ·subst h0
  clear hy hS
  go_enter Tryz.func117,Tryz.ntmps117
  go_wp2_with fail
  refine HP.out.mono ?_
  rintro e w1 ⟨rfl,hb⟩
  have HB:=Lib.hid hb
  clear hb
  go_wp2_with fail
  go_ret
  exact ⟨rfl,HB.out.alloc HB.out.size _⟩
 have b0:(tk == 0)=false:=by simpa using h0
 by_cases h2:tk=2
 ·subst h2
  clear hy hS
  go_enter Tryz.func117,Tryz.ntmps117
  go_wp2_with fail
  refine HP.out.mono ?_
  rintro e w1 ⟨rfl,hb⟩
  have HB:=Lib.hid hb
  clear hb
  go_wp2_with fail
  go_ret
  exact ⟨rfl,HB.out.alloc HB.out.size _⟩
 have b2:(tk == 2)=false:=by simpa using h2
 by_cases h3:tk=3
 ·subst h3
  clear hy hS
  go_enter Tryz.func117,Tryz.ntmps117
  go_wp2_with fail
  refine HP.out.mono ?_
  rintro e w1 ⟨rfl,hb⟩
  have HB:=Lib.hid hb
  clear hb
  go_wp2_with fail
  go_ret
  exact ⟨rfl,HB.out.alloc HB.out.size _⟩
 have b3:(tk == 3)=false:=by simpa using h3
 have hm:tss∈([[116,114,117,101],[102,97,108,115,101],[40],[109,97,116,99,104],[104,97,110,100,108,101],[115,104,97,108,108,111,119],[110,97,109,101,100]]:List (List UInt8)):=by
  rcases hy with h | h | h | h
  ·exact absurd h h0
  ·exact absurd h h2
  ·exact absurd h h3
  ·exact h
 simp only [List.mem_cons,List.not_mem_nil,or_false] at hm
 have hq:∀ l:List UInt8,(S.toList == l)=(tss == l):=fun l=>by rw [hS,ByteArray.toList_eq,data_strB]
 clear hy h0 h2 h3
 rcases hm with e | e | e | e | e | e | e
 ·subst e
  have f0:(S.toList == [116,114,117,101])=true:=(hq _).trans (by decide)
  clear hq hS
  go_enter Tryz.func117,Tryz.ntmps117
  go_wp2_with fail
  refine HP.out.mono ?_
  rintro e w1 ⟨rfl,hb⟩
  have HB:=Lib.hid hb
  clear hb
  go_wp2_with fail
  go_ret
  exact ⟨rfl,HB.out.alloc HB.out.size _⟩
 ·subst e
  have f0:(S.toList == [116,114,117,101])=false:=(hq _).trans (by decide)
  have f1:(S.toList == [102,97,108,115,101])=true:=(hq _).trans (by decide)
  clear hq hS
  go_enter Tryz.func117,Tryz.ntmps117
  go_wp2_with fail
  refine HP.out.mono ?_
  rintro e w1 ⟨rfl,hb⟩
  have HB:=Lib.hid hb
  clear hb
  go_wp2_with fail
  go_ret
  exact ⟨rfl,HB.out.alloc HB.out.size _⟩
 ·subst e
  have f0:(S.toList == [116,114,117,101])=false:=(hq _).trans (by decide)
  have f1:(S.toList == [102,97,108,115,101])=false:=(hq _).trans (by decide)
  have f2:(S.toList == [40])=true:=(hq _).trans (by decide)
  clear hq hS
  go_enter Tryz.func117,Tryz.ntmps117
  go_wp2_with fail
  refine HP.out.mono ?_
  rintro e w1 ⟨rfl,hb⟩
  have HB:=Lib.hid hb
  clear hb
  go_wp2_with fail
  go_ret
  exact ⟨rfl,HB.out.alloc HB.out.size _⟩
 ·subst e
  have f0:(S.toList == [116,114,117,101])=false:=(hq _).trans (by decide)
  have f1:(S.toList == [102,97,108,115,101])=false:=(hq _).trans (by decide)
  have f2:(S.toList == [40])=false:=(hq _).trans (by decide)
  have f3:(S.toList == [109,97,116,99,104])=true:=(hq _).trans (by decide)
  clear hq hS
  go_enter Tryz.func117,Tryz.ntmps117
  go_wp2_with fail
  refine HP.out.mono ?_
  rintro e w1 ⟨rfl,hb⟩
  have HB:=Lib.hid hb
  clear hb
  go_wp2_with fail
  go_ret
  exact ⟨rfl,HB.out.alloc HB.out.size _⟩
 ·subst e
  have f0:(S.toList == [116,114,117,101])=false:=(hq _).trans (by decide)
  have f1:(S.toList == [102,97,108,115,101])=false:=(hq _).trans (by decide)
  have f2:(S.toList == [40])=false:=(hq _).trans (by decide)
  have f3:(S.toList == [109,97,116,99,104])=false:=(hq _).trans (by decide)
  have f4:(S.toList == [104,97,110,100,108,101])=true:=(hq _).trans (by decide)
  clear hq hS
  go_enter Tryz.func117,Tryz.ntmps117
  go_wp2_with fail
  refine HP.out.mono ?_
  rintro e w1 ⟨rfl,hb⟩
  have HB:=Lib.hid hb
  clear hb
  go_wp2_with fail
  go_ret
  exact ⟨rfl,HB.out.alloc HB.out.size _⟩
 ·subst e
  have f0:(S.toList == [116,114,117,101])=false:=(hq _).trans (by decide)
  have f1:(S.toList == [102,97,108,115,101])=false:=(hq _).trans (by decide)
  have f2:(S.toList == [40])=false:=(hq _).trans (by decide)
  have f3:(S.toList == [109,97,116,99,104])=false:=(hq _).trans (by decide)
  have f4:(S.toList == [104,97,110,100,108,101])=false:=(hq _).trans (by decide)
  have f5:(S.toList == [115,104,97,108,108,111,119])=true:=(hq _).trans (by decide)
  clear hq hS
  go_enter Tryz.func117,Tryz.ntmps117
  go_wp2_with fail
  refine HP.out.mono ?_
  rintro e w1 ⟨rfl,hb⟩
  have HB:=Lib.hid hb
  clear hb
  go_wp2_with fail
  go_ret
  exact ⟨rfl,HB.out.alloc HB.out.size _⟩
 ·subst e
  have f0:(S.toList == [116,114,117,101])=false:=(hq _).trans (by decide)
  have f1:(S.toList == [102,97,108,115,101])=false:=(hq _).trans (by decide)
  have f2:(S.toList == [40])=false:=(hq _).trans (by decide)
  have f3:(S.toList == [109,97,116,99,104])=false:=(hq _).trans (by decide)
  have f4:(S.toList == [104,97,110,100,108,101])=false:=(hq _).trans (by decide)
  have f5:(S.toList == [115,104,97,108,108,111,119])=false:=(hq _).trans (by decide)
  have f6:(S.toList == [110,97,109,101,100])=true:=(hq _).trans (by decide)
  clear hq hS
  go_enter Tryz.func117,Tryz.ntmps117
  go_wp2_with fail
  refine HP.out.mono ?_
  rintro e w1 ⟨rfl,hb⟩
  have HB:=Lib.hid hb
  clear hb
  go_wp2_with fail
  go_ret
  exact ⟨rfl,HB.out.alloc HB.out.size _⟩
def appE (a e:Ex):Ex:=.mk 5 0 [] [] [] [a,e] [] []
theorem rep_app {P:Nat→Prop}{w:World}{a e:Ex}{g:Nat}{xs ys:List Value}(hp:P g)(hg:g < w.heap.size)(h1:xs.length=7)(h2:ys.length=7)(hc:CellsAt w g 0 (xs++ys))(ha:RepE P w a xs)(he:RepE P w e ys) :
  RepE P w (appE a e) [.int .i64 5,.int .i64 0,.string ⟨#[]⟩,.string ⟨#[]⟩,.slice none 0 0,.slice (some ⟨g,0,none⟩) 2 2,.slice none 0 0]:=by
 refine ⟨none,0,some ⟨g,0,none⟩,2,none,0,rfl,⟨okN_small (by omega),okN_small (by omega),okS_nil,Nat.zero_le _,by simp,⟨Nat.le_refl _,Nat.zero_le _⟩,⟨Nat.le_refl _,by unfold maxLen;omega⟩,⟨Nat.le_refl _,Nat.zero_le _⟩⟩,fun h=>absurd rfl h,fun _=>⟨g,0,rfl,hp,hg,⟨xs,h1,fun i v hi=>?_,ha⟩,⟨ys,h2,fun i v hi=>?_,he⟩,trivial⟩,fun h=>absurd rfl h,rfl⟩
 ·exact hc i v (by rw [List.getElem?_append_left (List.getElem?_eq_some_iff.1 hi).1];exact hi)
 ·have:=hc (7+i) v (by rw [List.getElem?_append_right (by omega),h1,Nat.add_sub_cancel_left];exact hi)
  simpa using this
def CallStep (F:Prop)(w0:World)(b g go c:Nat)(ts:List Rt)(dp:Nat)(Chain:Ex→Nat→Prop)(E:Ex)(K:Nat)(ex:Ex)(nx:Nat):Prop :=
 ∃ tk,ts[nx]?=some tk∧((NoAtom tk∧ex=E∧nx=K)∨(YesAtom tk∧∃ e2 nx2,nx < nx2∧nx2≤ts.length ∧
  (∀ w',w0.grownBy w' (some b)→PS w' b g go c ts nx dp→Calls Tryz.prog 118 #[.pointer (some ⟨b,0,none⟩)] w' (OF F w' b g go c ts (ExprTo w' b g go c ts nx2 dp e2)))∧Chain (appE ex e2) nx2))
theorem res_call0 {tmps:Array Value}{w:World}{g:Nat}{v0 v1 v2 v3 v4 v5 v6:Value}(h2:tmps.getD 2 undef=.pointer (some ⟨g,0,none⟩))(h:EB w g v0 v1 v2 v3 v4 v5 v6) :
  (results Tryz.f90 tmps).run Tryz.prog w=.ok (.agg #[v0,v1,v2,v3,v4,v5,v6]) w:=by
 have c0:=h.c0
 have c1:=h.c1
 have c2:=h.c2
 have c3:=h.c3
 have c4:=h.c4
 have c5:=h.c5
 have c6:=h.c6
 have h2':tmps[2]?.getD undef=.pointer (some ⟨g,0,none⟩):=by simpa using h2
 simp [results,Tryz.results90,go_sem,h2',c0,c1,c2,c3,c4,c5,c6]
set_option maxRecDepth 100000 in
set_option maxHeartbeats 4000000 in
theorem pCall_any {F:Prop}(b g go c:Nat)(ts:List Rt)(nx dp:Nat)(Chain:Ex→Nat→Prop)(E:Ex)(K:Nat)(ex0:Ex)(nx0:Nat)(w:World)(h:PS w b g go c ts nx dp)
  (HC:Hid (∀ w',w.grownBy w' (some b)→PS w' b g go c ts nx dp→Calls Tryz.prog 116 #[.pointer (some ⟨b,0,none⟩)] w' (OF F w' b g go c ts (ExprTo w' b g go c ts nx0 dp ex0))))
  (H0C:Chain ex0 nx0) (HStep:Hid (∀ ex nx,Chain ex nx→CallStep F w b g go c ts dp Chain E K ex nx)) :
  Calls Tryz.prog 90 #[.pointer (some ⟨b,0,none⟩)] w (OF F w b g go c ts (ExprTo w b g go c ts K dp E)):=by
 have hbl:=h.blt
 have hgl:=h.lt
 have H0:Hid (PS (w.alloc (.cells #[.int .i64 0,.int .i64 0,.string ⟨#[]⟩,.string ⟨#[]⟩,.slice none 0 0,.slice none 0 0,.slice none 0 0] 27)) b g go c ts nx dp):=h.below ((Below.refl _ _).alloc (Nat.le_refl _) _)
 have HE0:=Lib.hid (EB.new w (.int .i64 0) (.int .i64 0) (.string ⟨#[]⟩) (.string ⟨#[]⟩) (.slice none 0 0) (.slice none 0 0) (.slice none 0 0))
 have HG0:Hid (w.grownBy _ (some b)):=World.grownBy_alloc w (.cells #[.int .i64 0,.int .i64 0,.string ⟨#[]⟩,.string ⟨#[]⟩,.slice none 0 0,.slice none 0 0,.slice none 0 0] 27) (some b)
 have HCh:=Lib.hid H0C
 clear h H0C
 go_enter Tryz.func90,Tryz.ntmps90
 go_wp2_with fail
 refine (HC.out _ HG0.out H0.out).mono ?_
 rintro e w2 (⟨k,n,s,t,A0,n0,m0,A1,n1,m1,A2,n2,m2,rfl,hr,hw⟩ | ⟨hF,nxF,hnF,rfl,dpF,hpF,hgF⟩)
 rotate_left
 ·exact ⟨rfl,.inr ⟨hF,nxF,hnF,rfl,dpF,hpF,grown_trans HG0.out hgF⟩⟩
 have HR:=Lib.hid hr
 have HP2:=Lib.hid hw.1
 have HG2:=Lib.hid (grown_trans HG0.out hw.2)
 have HE2:=Lib.hid (HE0.out.kept hw.2 (by simp;omega))
 clear hr hw HC
 go_wp2_with fail
 obtain ⟨W3,hW3⟩:∃ W3,w2.alloc (.cells #[.int .i64 k,.int .i64 n,.string s,.string t,.slice A0 n0 m0,.slice A1 n1 m1,.slice A2 n2 m2] 27)=W3:=⟨_,rfl⟩
 have HP3:Hid (PS W3 b g go c ts nx0 dp):=by rw [← hW3];exact HP2.out.below ((Below.refl _ _).alloc (Nat.le_refl _) _)
 have HE3:Hid (EB W3 w.heap.size (.int .i64 0) (.int .i64 0) (.string ⟨#[]⟩) (.string ⟨#[]⟩) (.slice none 0 0) (.slice none 0 0) (.slice none 0 0)):=by rw [← hW3];exact HE2.out.kept (World.grownBy_alloc _ _ none) (by simp)
 have HT3:Hid (EB W3 w2.heap.size (.int .i64 k) (.int .i64 n) (.string s) (.string t) (.slice A0 n0 m0) (.slice A1 n1 m1) (.slice A2 n2 m2)):=by rw [← hW3];exact EB.new w2 _ _ _ _ _ _ _
 have HG3:Hid (w.grownBy W3 (some b)):=by rw [← hW3];exact grown_trans HG2.out (World.grownBy_alloc _ _ _)
 have hz2:w.heap.size < w2.heap.size:=HE2.out.lt
 have HR3:Hid (RepE (fun x=>w.heap.size < x∧x≠w2.heap.size) W3 ex0 [.int .i64 k,.int .i64 n,.string s,.string t,.slice A0 n0 m0,.slice A1 n1 m1,.slice A2 n2 m2]):=by
  rw [← hW3]
  exact (HR.out.tight.keep (Same.of_grown (World.grownBy_alloc _ _ none) (fun _ _=>by simp))).weaken (fun x hx=>by have h1:=hx.1;have h2:=hx.2;simp at h1;omega)
 rw [hW3]
 clear hW3
 obtain ⟨T,hT⟩:∃ T,T=w2.heap.size:=⟨_,rfl⟩
 have HRel:Hid (OpRel w w.heap.size T b g go c ts dp Chain W3):=by
  rw [hT];exact ⟨ex0,nx0,k,n,s,t,A0,n0,m0,A1,n1,m1,A2,n2,m2,HCh.out,HP3.out,HE3.out,HT3.out,HR3.out,HG3.out⟩
 have hwT:w.heap.size < T:=by omega
 rw [← hT]
 clear HP3 HE3 HT3 HG3 HR3 HR HP2 HG2 HE2 HCh hT hz2
 clear HE0 HG0 H0
 go_loopw [] (fun wr=>Hid (OpRel w w.heap.size T b g go c ts dp Chain wr)) (fun wr=>ts.length - nxOf b wr)
 case atStart=>exact HRel
 case round =>
  clear HRel
  obtain ⟨ex,nx,k,n,s,t,A0,n0,m0,A1,n1,m1,A2,n2,m2,hch,hps,he,ht,hr,hg⟩:=hrel.out
  obtain ⟨tk,htk,hcase⟩:=HStep.out ex nx hch
  have hgr:=hps.lt
  have hzr:T < wr.heap.size:=ht.lt
  have HPr:=Lib.hid hps
  have HEr:=Lib.hid he
  have HTr:=Lib.hid ht
  have HRr:=Lib.hid hr
  have HGr:=Lib.hid hg
  clear hps he ht hr hg hch hrel
  rcases hcase with ⟨hf,hee,hkk⟩ | ⟨hy,e2,nx2,hlt,hle,hC2,hend⟩
  ·have HI:=Lib.hid (fun w h=>isAtom_no b g go c ts nx dp tk w h htk hf)
   subst hee
   subst hkk
   clear htk hf
   go_wp2_with fail
   refine (HI.out _ HPr.out).mono ?_
   rintro e w4 ⟨rfl,hb⟩
   have HP4:=Lib.hid (HPr.out.below hb)
   have HE4:=Lib.hid (HEr.out.kept (grown_below hb none) (by simp))
   have HT4:=Lib.hid (HTr.out.kept (grown_below hb none) (by simp))
   have HG4:=Lib.hid (grown_trans HGr.out (grown_below hb _))
   have HR4:=Lib.hid (HRr.out.keep (Same.of_below hb))
   have e0:=HE4.out.c0
   have e1:=HE4.out.c1
   have e2:=HE4.out.c2
   have e3:=HE4.out.c3
   have e4:=HE4.out.c4
   have e5:=HE4.out.c5
   have e6:=HE4.out.c6
   have r0:=HE4.out.fr 0
   have r1:=HE4.out.fr 1
   have r2:=HE4.out.fr 2
   have r3:=HE4.out.fr 3
   have r4:=HE4.out.fr 4
   have r5:=HE4.out.fr 5
   have r6:=HE4.out.fr 6
   have d0:=HT4.out.c0
   have d1:=HT4.out.c1
   have d2:=HT4.out.c2
   have d3:=HT4.out.c3
   have d4:=HT4.out.c4
   have d5:=HT4.out.c5
   have d6:=HT4.out.c6
   clear hb
   go_wp2_with fail
   exact bodyPost_retF (res_call0 rfl (HE4.out.all (.int .i64 k) (.int .i64 n) (.string s) (.string t) (.slice A0 n0 m0) (.slice A1 n1 m1) (.slice A2 n2 m2))) rfl
    ⟨k,n,s,t,A0,n0,m0,A1,n1,m1,A2,n2,m2,rfl,(HR4.out.keep (Same.of_grown (set7_grown _ _ _ _ _ _ _ _ _) (fun x hx=>by have h1:=hx.1;simp;omega))).weaken (fun x hx=>by have h1:=hx.1;omega),
     HP4.out.kept (set7_grown _ _ _ _ _ _ _ _ _) (by simp;omega) (by simp;omega),grown_7 HG4.out (Nat.le_refl _) _ _ _ _ _ _ _⟩
  ·have HI:=Lib.hid (fun w h=>isAtom_yes b g go c ts nx dp tk w h htk hy)
   have HC2:=Lib.hid hC2
   have HEnd:=Lib.hid hend
   clear hC2 hend htk hy
   go_wp2_with fail
   refine (HI.out _ HPr.out).mono ?_
   rintro e w4 ⟨rfl,hb⟩
   have HP4:=Lib.hid (HPr.out.below hb)
   have HE4:=Lib.hid (HEr.out.kept (grown_below hb none) (by simp))
   have HT4:=Lib.hid (HTr.out.kept (grown_below hb none) (by simp))
   have HG4:=Lib.hid (grown_trans HGr.out (grown_below hb _))
   have HR4:=Lib.hid (HRr.out.keep (Same.of_below hb))
   clear hb
   have HR5:=Lib.hid HR4.out.tight
   go_wp2_with fail
   refine (HC2.out _ HG4.out HP4.out).mono ?_
   rintro e w6 (⟨kk,nn,ss,tt,B0,n3,m3,B1,n4,m4,B2,n5,m5,rfl,hr,hw⟩ | ⟨hF,nxF,hnF,rfl,dpF,hpF,hgF⟩)
   rotate_left
   ·exact ⟨rfl,.inr ⟨hF,nxF,hnF,rfl,dpF,hpF,grown_trans HG4.out hgF⟩⟩
   have hz5:=HT4.out.lt
   have HRa:=Lib.hid (HR5.out.tight.keep (Same.of_grown hw.2 (fun x hx=>by have h1:=hx.1.1.1;simp;omega)))
   have HRb:=Lib.hid hr.tight
   have HP6:=Lib.hid hw.1
   have HE6:=Lib.hid (HE4.out.kept hw.2 (by simp;omega))
   have HT6:=Lib.hid (HT4.out.kept hw.2 (by simp;omega))
   have HG6:=Lib.hid (grown_trans HG4.out hw.2)
   have hz6:=HT6.out.lt
   have d0:=HT6.out.c0
   have d1:=HT6.out.c1
   have d2:=HT6.out.c2
   have d3:=HT6.out.c3
   have d4:=HT6.out.c4
   have d5:=HT6.out.c5
   have d6:=HT6.out.c6
   have r0:=HT6.out.fr 0
   have r1:=HT6.out.fr 1
   have r2:=HT6.out.fr 2
   have r3:=HT6.out.fr 3
   have r4:=HT6.out.fr 4
   have r5:=HT6.out.fr 5
   have r6:=HT6.out.fr 6
   clear hr hw
   go_wp2_with fail
   obtain ⟨W7,hW7⟩:∃ W7,((set7 w6 T (.int .i64 5) (.int .i64 0) (.string ⟨#[]⟩) (.string ⟨#[]⟩) (.slice none 0 0) (.slice (some ⟨w6.heap.size+1,0,none⟩) 2 2) (.slice none 0 0)).alloc (.cells #[.int .i64 kk,.int .i64 nn,.string ss,.string tt,.slice B0 n3 m3,.slice B1 n4 m4,.slice B2 n5 m5] 27)).alloc (.cells #[.int .i64 k,.int .i64 n,.string s,.string t,.slice A0 n0 m0,.slice A1 n1 m1,.slice A2 n2 m2,.int .i64 kk,.int .i64 nn,.string ss,.string tt,.slice B0 n3 m3,.slice B1 n4 m4,.slice B2 n5 m5] 27)=W7:=⟨_,rfl⟩
   have hS7:w6.grownBy W7 (some T):=by rw [← hW7];exact grown_trans (grown_trans (set7_grown _ _ _ _ _ _ _ _ _) (World.grownBy_alloc _ _ _)) (World.grownBy_alloc _ _ _)
   have hz7:W7.heap.size=w6.heap.size+2:=by rw [← hW7];simp [set7,World.setCell]
   have hc7:CellsAt W7 (w6.heap.size+1) 0 ([.int .i64 k,.int .i64 n,.string s,.string t,.slice A0 n0 m0,.slice A1 n1 m1,.slice A2 n2 m2]++[.int .i64 kk,.int .i64 nn,.string ss,.string tt,.slice B0 n3 m3,.slice B1 n4 m4,.slice B2 n5 m5]):=by
    rw [← hW7]
    have:=cellsAt_new ((set7 w6 T (.int .i64 5) (.int .i64 0) (.string ⟨#[]⟩) (.string ⟨#[]⟩) (.slice none 0 0) (.slice (some ⟨w6.heap.size+1,0,none⟩) 2 2) (.slice none 0 0)).alloc (.cells #[.int .i64 kk,.int .i64 nn,.string ss,.string tt,.slice B0 n3 m3,.slice B1 n4 m4,.slice B2 n5 m5] 27)) [.int .i64 k,.int .i64 n,.string s,.string t,.slice A0 n0 m0,.slice A1 n1 m1,.slice A2 n2 m2,.int .i64 kk,.int .i64 nn,.string ss,.string tt,.slice B0 n3 m3,.slice B1 n4 m4,.slice B2 n5 m5] 27
    have hz:((set7 w6 T (.int .i64 5) (.int .i64 0) (.string ⟨#[]⟩) (.string ⟨#[]⟩) (.slice none 0 0) (.slice (some ⟨w6.heap.size+1,0,none⟩) 2 2) (.slice none 0 0)).alloc (.cells #[.int .i64 kk,.int .i64 nn,.string ss,.string tt,.slice B0 n3 m3,.slice B1 n4 m4,.slice B2 n5 m5] 27)).heap.size=w6.heap.size+1:=by simp [set7,World.setCell]
    rw [hz] at this
    exact this
   have HT7:Hid (EB W7 T (.int .i64 5) (.int .i64 0) (.string ⟨#[]⟩) (.string ⟨#[]⟩) (.slice none 0 0) (.slice (some ⟨w6.heap.size+1,0,none⟩) 2 2) (.slice none 0 0)):=by
    rw [← hW7]
    exact ((HT6.out.all (.int .i64 5) (.int .i64 0) (.string ⟨#[]⟩) (.string ⟨#[]⟩) (.slice none 0 0) (.slice (some ⟨w6.heap.size+1,0,none⟩) 2 2) (.slice none 0 0)).kept (World.grownBy_alloc _ _ none) (by simp)).kept (World.grownBy_alloc _ _ none) (by simp)
   have HP7:=Lib.hid (HP6.out.kept hS7 (by simp;omega) (by simp;omega))
   have HE7:=Lib.hid (HE6.out.kept hS7 (by simp;omega))
   have HG7:Hid (w.grownBy W7 (some b)):=by
    rw [← hW7]
    exact grown_trans (grown_trans (grown_7 HG6.out (by omega) _ _ _ _ _ _ _) (World.grownBy_alloc _ _ _)) (World.grownBy_alloc _ _ _)
   have HR7:Hid (RepE (fun x=>w.heap.size < x∧x≠T) W7 (appE ex e2) [.int .i64 5,.int .i64 0,.string ⟨#[]⟩,.string ⟨#[]⟩,.slice none 0 0,.slice (some ⟨w6.heap.size+1,0,none⟩) 2 2,.slice none 0 0]):=by
    refine rep_app ⟨by omega,by omega⟩ (by omega) rfl rfl hc7 ?_ ?_
    ·exact (HRa.out.keep (Same.of_grown hS7 (fun x hx=>by have h1:=hx.1.1.2;simpa using h1))).weaken (fun x hx=>hx.1.1)
    ·exact (HRb.out.keep (Same.of_grown hS7 (fun x hx=>by have h1:=hx.1;have h2:=hz5;simp;omega))).weaken (fun x hx=>by have h1:=hx.1;have h2:=hz5;omega)
   unfold set7 at hW7
   rw [hW7]
   clear hW7 hS7 hz7 hc7 HT6 HP6 HE6 HG6 HRa HRb d0 d1 d2 d3 d4 d5 d6 r0 r1 r2 r3 r4 r5 r6
   go_roundw
   case rel=>exact Lib.hid ⟨appE ex e2,nx2,5,0,⟨#[]⟩,⟨#[]⟩,none,0,0,some ⟨w6.heap.size+1,0,none⟩,2,2,none,0,0,HEnd.out,HP7.out,HE7.out,HT7.out,HR7.out,HG7.out⟩
   case measure =>
    rw [nxOf_ps HP7.out,nxOf_ps HPr.out]
    omega
def NamesTo (w:World)(b g go c:Nat)(ts:List Rt)(nx dp:Nat)(l:List (List UInt8))(e:Ending)(w':World):Prop :=
 ∃ A cap,e=.returned (.slice A l.length cap)∧NamesAt (fun x=>w.heap.size≤x) w' A l∧(l.length≤cap∧cap≤maxLen)∧Went w w' b g go c ts nx dp
theorem own_names2 {base:Nat}{w:World}{A:Option Addr}{n c:Nat}{L:List (List UInt8)}(hn:n=L.length)(ho:w.ownsRow base 9 1 (.slice A n c) n (L.map fun x=>Value.string (strB x))):NamesAt (fun x=>base≤x) w A L∧n≤c∧c≤maxLen:=by
 rcases ho.2 with ⟨e,h0⟩ | ⟨g,cap,cur,e,hb,hg,h1,h2,_⟩
 ·injection e with e1 e2 e3
  subst e1 e3
  have:L=[]:=List.length_eq_zero_iff.1 (by omega)
  subst this
  exact ⟨fun h=>absurd rfl h,by omega,by unfold maxLen;omega⟩
 ·injection e with e1 e2 e3
  subst e1 e3
  refine ⟨fun _=>⟨g,0,rfl,hb,(Array.getElem?_eq_some_iff.1 hg).1,fun j x hj=>?_⟩,h1,h2⟩
  have hjl:=(List.getElem?_eq_some_iff.1 hj).1
  rw [Nat.zero_add,ho.cellAt j (by omega),List.getElem?_map,hj]
  rfl
def slLen2:Value→Nat
 | .slice _ n _=>n
 | _=>0
theorem own_apart2 {w:World}{base:Nat}{T:TypeId}{size:Nat}{A:Option Addr}{n c m:Nat}{xs:List Value}{b:Nat}(h:w.ownsRow base T size (.slice A n c) m xs)(hb:b < base):(Value.slice A n c).ownBlock=none∨(Value.slice A n c).ownBlock≠some b:=by
 rcases h.2 with ⟨e,_⟩ | ⟨g,cap,cur,e,hg,_⟩
 ·rw [e];exact .inl rfl
 ·rw [e]
  refine .inr fun e2=>?_
  have:g=b:=Option.some.inj e2
  omega
theorem own_from2 {w:World}{base:Nat}{T:TypeId}{size:Nat}{v:Value}{m:Nat}{xs:List Value}{k:Nat}(h:w.ownsRow base T size v m xs)(hk:v.ownBlock=some k):base≤k:=(h.lt k hk).1
theorem own_ne2 {w:World}{base:Nat}{T:TypeId}{size:Nat}{v:Value}{m:Nat}{xs:List Value}{b:Nat}(h:w.ownsRow base T size v m xs)(hb:b < base):some b≠v.ownBlock:=fun e=>by
 have:=own_from2 h e.symm
 omega
theorem grown_own2 {w W W':World}{row r:Option Nat}(h:w.grownBy W row)(hg:W.grownBy W' r)(hr:∀ k,r=some k→w.heap.size≤k):w.grownBy W' row :=
 ⟨hg.os.trans h.os,hg.tape.trans h.tape,hg.output.trans h.output,Nat.le_trans h.size hg.size,fun k hk hne=>(hg.block k (Nat.lt_of_lt_of_le hk h.size) (fun e=>by have:=hr k e.symm;omega)).trans (h.block k hk hne)⟩
set_option maxRecDepth 100000 in
set_option maxHeartbeats 4000000 in
theorem lowers_any (b g go c:Nat)(ts:List Rt)(nx dp:Nat)(L:List (List UInt8))(w:World)(h:PS w b g go c ts nx dp)(hL:L.length≤100000)(hlen:ts.length≤100000)
  (hnm:∀ (kk:Nat) (x:List UInt8),L[kk]?=some x→∃ t,ts[nx+kk]?=some t∧t.k=0∧t.s=x)
  (hend:∃ t,ts[nx+L.length]?=some t∧t.k≠0) :
  Calls Tryz.prog 166 #[.pointer (some ⟨b,0,none⟩)] w (NamesTo w b g go c ts (nx+L.length) dp L):=by
 obtain ⟨i0,hi,hz0,hz1,hz2⟩:=info_parts infoN
 have H:=Lib.hid h
 have hbl:=h.blt
 have hgl:=h.lt
 have HF:=Lib.hid hnm
 have HD:=Lib.hid hend
 obtain ⟨n,hn⟩:∃ n,n=L.length:=⟨_,rfl⟩
 have HN:=Lib.hid hn
 have hn2:n≤100000:=by omega
 rw [← hn] at HD
 clear h hnm hend hn hL
 go_enter Tryz.func166,Tryz.ntmps166
 go_wp2_with fail
 go_loopw [2] (fun v wr=>∃ (kk:Nat) (A':Option Addr) (c':Nat),kk≤n∧v=.slice A' kk c'∧Hid (wr.ownsRow w.heap.size 9 1 (.slice A' kk c') kk ((L.take kk).map fun x=>Value.string (strB x)))∧Hid (PS wr b g go c ts (nx+kk) dp)∧Hid (w.grownBy wr (some b))) (fun v _=>n - slLen2 v)
 case atStart=>exact ⟨0,none,0,Nat.zero_le _,rfl,Lib.hid (World.ownsRow_nil _ _ _ _),H,Lib.hid ⟨rfl,rfl,rfl,Nat.le_refl _,fun _ _ _=>rfl⟩⟩
 case round =>
  obtain ⟨kk,A',c',hkk,rfl,hO,hP,hG⟩:=hrel
  have fl0:=tfield0
  by_cases hkn:kk < n
  ·obtain ⟨x,hx⟩:∃ x,x=L[kk]'(by rw [← HN.out];exact hkn):=⟨_,rfl⟩
   have HX:Hid (L[kk]?=some x):=Lib.hid (by rw [hx];exact List.getElem?_eq_getElem _)
   obtain ⟨t,ht,htk,hts⟩:=HF.out kk x HX.out
   have HPk:=Lib.hid (peek_any b g go c ts (nx+kk) dp t wr hP.out ht)
   have HLo:=Lib.hid (fun w h=>lower_ok b g go c ts (nx+kk) dp t w h ht htk hlen)
   rw [hts] at HPk HLo
   obtain ⟨X,hXe⟩:∃ X,X=strB x:=⟨_,rfl⟩
   rw [← hXe] at HPk HLo
   have HTk:Hid ((L.take (kk+1)).map (fun x=>Value.string (strB x))=(L.take kk).map (fun x=>Value.string (strB x))++[.string X]):=Lib.hid (by
    rw [List.take_add_one,HX.out,hXe];simp)
   obtain ⟨tk,tss,tn,tp⟩:=t
   simp only at HPk htk
   subst htk
   clear hts ht hx hXe
   go_wp2_with fail
   refine HPk.out.mono ?_
   rintro e w1 ⟨rfl,hb⟩
   have HP1:=Lib.hid (hP.out.below hb)
   have HO1:=Lib.hid (hO.out.kept (grown_below hb none) (by cases (Value.slice A' kk c').ownBlock <;> simp))
   have HG1:=Lib.hid (grown_trans hG.out (grown_below hb _))
   clear hb
   go_wp2_with fail
   refine (HLo.out _ HP1.out).mono ?_
   rintro e w2 ⟨rfl,hw⟩
   have HP2:=Lib.hid hw.1
   have HO2:=Lib.hid (HO1.out.kept hw.2 (own_apart2 HO1.out hbl))
   have HG2:=Lib.hid (grown_trans HG1.out hw.2)
   have hzw2:=HG2.out.size
   clear hw
   go_wp2_with (at_builtin;refine wpList_append_own _ rfl _ _ 23 rfl w.heap.size 9 i0 (.string ⟨#[]⟩) 1 16 Tryz.underlying23 hi hz0 hz1 hz2 rfl (by decide) _ _ _ rfl (HO2.out.alloc _) ⟨w2.heap.size,0,none⟩ 1 1 [.string X] rfl rfl (cell_one_new _ _ _) (by simp [Value.oneCell']) (by unfold maxLen;omega) (by omega) (by simp;omega) ?_;intro v' w4 hown' hgrow _;obtain ⟨A3,c3,rfl⟩:=own_slice hown';have HO4:=Lib.hid hown';have HP4:=Lib.hid ((HP2.out.kept (World.grownBy_alloc w2 _ none) (by simp) (by simp)).kept hgrow (own_ne2 HO2.out hbl) (own_ne2 HO2.out hgl));have HG4:=Lib.hid (grown_own2 (grown_trans HG2.out (World.grownBy_alloc w2 _ _)) hgrow (fun k hk=>own_from2 HO2.out hk));clear hown' hgrow)
   go_roundw
   case rel=>exact ⟨kk+1,A3,c3,by omega,rfl,Lib.hid (by rw [HTk.out];exact HO4.out),HP4,HG4⟩
   case measure=>simp [slLen2];omega
  ·obtain rfl:kk=n:=by omega
   obtain ⟨t,ht,htk⟩:=HD.out
   have HPk:=Lib.hid (peek_any b g go c ts (nx+kk) dp t wr hP.out ht)
   obtain ⟨tk,tss,tn,tp⟩:=t
   obtain ⟨S,hS⟩:∃ S,S=strB tss:=⟨_,rfl⟩
   simp only at HPk htk
   rw [← hS] at HPk
   have b0:(tk == 0)=false:=by simpa using htk
   clear htk ht hS
   go_wp2_with fail
   refine HPk.out.mono ?_
   rintro e w1 ⟨rfl,hb⟩
   have HP1:=Lib.hid (hP.out.below hb)
   have HO1:=Lib.hid (hO.out.kept (grown_below hb none) (by cases (Value.slice A' kk c').ownBlock <;> simp))
   have HG1:=Lib.hid (grown_trans hG.out (grown_below hb _))
   clear hb
   go_wp2_with fail
   go_ret
   have ho:=HO1.out
   rw [List.take_of_length_le (by rw [← HN.out];exact Nat.le_refl _)] at ho
   obtain ⟨l1,l2,l3⟩:=own_names2 HN.out ho
   exact ⟨A',c',by rw [← HN.out];rfl,l1,by rw [← HN.out];exact ⟨l2,l3⟩,by rw [← HN.out];exact ⟨HP1.out,HG1.out⟩⟩
theorem flat7_at:∀ {cl:List (List Value)},(∀ c∈cl,c.length=7)→∀ (j i:Nat) (c:List Value),cl[j]?=some c→i < 7→cl.flatten[j*7+i]?=c[i]?
 | [],_,j,i,c,hj,_=>by simp at hj
 | x :: r,h,0,i,c,hj,hi=>by
  simp only [List.getElem?_cons_zero,Option.some.injEq] at hj
  subst hj
  rw [List.flatten_cons,Nat.zero_mul,Nat.zero_add,List.getElem?_append_left (by rw [h x (by simp)];exact hi)]
 | x :: r,h,j+1,i,c,hj,hi=>by
  simp only [List.getElem?_cons_succ] at hj
  rw [List.flatten_cons,List.getElem?_append_right (by rw [h x (by simp)];omega),h x (by simp),show (j+1)*7+i - 7=j*7+i by omega]
  exact flat7_at (fun y hy=>h y (by simp [hy])) j i c hj hi
def CellsE (P:Nat→Prop)(w:World)(l:List Ex)(cl:List (List Value)):Prop:=cl.length=l.length∧∀ (j:Nat) (e:Ex) (c:List Value),l[j]?=some e→cl[j]?=some c→RepE P w e c
theorem RepE.seven {P:Nat→Prop}{w:World}{e:Ex}{c:List Value}(h:RepE P w e c):c.length=7:=by
 obtain ⟨k,n,s,t,A0,n0,c0,A1,n1,c1,A2,n2,c2,rfl⟩:=h.shape;rfl
theorem CellsE.seven {P:Nat→Prop}{w:World}{l:List Ex}{cl:List (List Value)}(h:CellsE P w l cl):∀ c∈cl,c.length=7:=fun c hc=>by
 obtain ⟨j,hj,rfl⟩:=List.getElem_of_mem hc
 exact (h.2 j _ _ (List.getElem?_eq_getElem (by rw [← h.1];exact hj)) (List.getElem?_eq_getElem hj)).seven
theorem CellsE.keep {P:Nat→Prop}{w w':World}{l:List Ex}{cl:List (List Value)}(h:CellsE P w l cl)(hs:Same P w w'):CellsE P w' l cl:=⟨h.1,fun j e c h1 h2=>(h.2 j e c h1 h2).keep hs⟩
theorem CellsE.weaken {P Q:Nat→Prop}{w:World}{l:List Ex}{cl:List (List Value)}(h:CellsE P w l cl)(hq:∀ x,P x→Q x):CellsE Q w l cl:=⟨h.1,fun j e c h1 h2=>(h.2 j e c h1 h2).weaken hq⟩
theorem CellsE.tight {P:Nat→Prop}{w:World}{l:List Ex}{cl:List (List Value)}(h:CellsE P w l cl):CellsE (fun x=>P x∧x < w.heap.size) w l cl:=⟨h.1,fun j e c h1 h2=>(h.2 j e c h1 h2).tight⟩
theorem CellsE.snoc {P:Nat→Prop}{w:World}{l:List Ex}{cl:List (List Value)}(h:CellsE P w l cl){e:Ex}{c:List Value}(hr:RepE P w e c):CellsE P w (l++[e]) (cl++[c]):=by
 refine ⟨by simp [h.1],fun j e' c' h1 h2=>?_⟩
 by_cases hj:j < l.length
 ·rw [List.getElem?_append_left hj] at h1
  rw [List.getElem?_append_left (by rw [h.1];exact hj)] at h2
  exact h.2 j e' c' h1 h2
 ·rw [List.getElem?_append_right (by omega)] at h1
  rw [List.getElem?_append_right (by rw [h.1];omega),h.1] at h2
  cases hz:j - l.length with
  | zero =>
   rw [hz] at h1 h2
   simp only [List.getElem?_cons_zero,Option.some.injEq] at h1 h2
   subst h1;subst h2;exact hr
  | succ m=>rw [hz] at h1;simp at h1
theorem CellsE.list {base:Nat}{w:World}{l:List Ex}{cl:List (List Value)}{A:Option Addr}{n c:Nat}(h:CellsE (fun x=>base≤x) w l cl)(hn:n=l.length)(ho:w.ownsRow base 27 7 (.slice A n c) n cl.flatten) :
  (l≠[]→∃ b off,A=some ⟨b,off,none⟩∧base≤b∧b < w.heap.size∧RepL (fun x=>base≤x) w b off l)∧n≤c∧c≤maxLen:=by
 rcases ho.2 with ⟨e,h0⟩ | ⟨g,cap,cur,e,hb,hg,h1,h2,_⟩
 ·injection e with e1 e2 e3
  subst e1 e3
  have:l=[]:=List.length_eq_zero_iff.1 (by omega)
  subst this
  exact ⟨fun h=>absurd rfl h,by omega,by unfold maxLen;omega⟩
 ·injection e with e1 e2 e3
  subst e1 e3
  refine ⟨fun _=>⟨g,0,rfl,hb,(Array.getElem?_eq_some_iff.1 hg).1,RepL.of fun j x hj=>?_⟩,h1,h2⟩
  have hjl:=(List.getElem?_eq_some_iff.1 hj).1
  have hjc:j < cl.length:=by rw [h.1];exact hjl
  have hr:=h.2 j x _ hj (List.getElem?_eq_getElem hjc)
  refine ⟨_,hr.seven,fun i v hi=>?_,hr⟩
  have hi7:i < 7:=by have:=(List.getElem?_eq_some_iff.1 hi).1;rw [hr.seven] at this;exact this
  rw [Nat.zero_add,ho.cellAt (j*7+i) (by omega),flat7_at h.seven j i _ (List.getElem?_eq_getElem hjc) hi7]
  exact hi
theorem infoEx:(Tryz.prog.info? 27).map (fun i=>(i.zero,i.size,i.bytes))=some (some (.agg #[.int .i64 0,.int .i64 0,.string ⟨#[]⟩,.string ⟨#[]⟩,.slice none 0 0,.slice none 0 0,.slice none 0 0]),7,120):=by kernel_rfl
def ListTo (w:World)(b g go c:Nat)(ts:List Rt)(nx dp:Nat)(l:List Ex)(e:Ending)(w':World):Prop :=
 ∃ A cap,e=.returned (.slice A l.length cap)∧(l≠[]→∃ x off,A=some ⟨x,off,none⟩∧w.heap.size≤x∧x < w'.heap.size∧RepL (fun x=>w.heap.size≤x) w' x off l)∧(l.length≤cap∧cap≤maxLen)∧Went w w' b g go c ts nx dp
theorem cell_ex (w:World)(v0 v1 v2 v3 v4 v5 v6:Value)(t:TypeId):∀ j u,([v0,v1,v2,v3,v4,v5,v6]:List Value)[j]?=some u→(w.alloc (.cells #[v0,v1,v2,v3,v4,v5,v6] t)).cell? ((⟨w.heap.size,0,none⟩:Addr).add j)=some u:=by
 intro j u hj
 match j,hj with
 | 0,hj=>simp at hj;subst hj;simp [Addr.add]
 | 1,hj=>simp at hj;subst hj;simp [Addr.add]
 | 2,hj=>simp at hj;subst hj;simp [Addr.add]
 | 3,hj=>simp at hj;subst hj;simp [Addr.add]
 | 4,hj=>simp at hj;subst hj;simp [Addr.add]
 | 5,hj=>simp at hj;subst hj;simp [Addr.add]
 | 6,hj=>simp at hj;subst hj;simp [Addr.add]
 | j+7,hj=>simp at hj
theorem cell_ex2 (w:World)(v0 v1 v2 v3 v4 v5 v6:Value):∀ j u,([v0,v1,v2,v3,v4,v5,v6]:List Value)[j]?=some u→((w.alloc (.cells #[v0,v1,v2,v3,v4,v5,v6] 27)).alloc (.cells #[v0,v1,v2,v3,v4,v5,v6] 27)).cell? ((⟨w.heap.size+1,0,none⟩:Addr).add j)=some u:=by
 have:=cell_ex (w.alloc (.cells #[v0,v1,v2,v3,v4,v5,v6] 27)) v0 v1 v2 v3 v4 v5 v6 27
 rw [World.size_alloc] at this
 exact this
theorem ex_one (k n:Int)(s t:ByteArray)(A0:Option Addr)(n0 c0:Nat)(A1:Option Addr)(n1 c1:Nat)(A2:Option Addr)(n2 c2:Nat):∀ u∈([.int .i64 k,.int .i64 n,.string s,.string t,.slice A0 n0 c0,.slice A1 n1 c1,.slice A2 n2 c2]:List Value),u.oneCell'=true:=by
 intro u hu
 simp only [List.mem_cons,List.not_mem_nil,or_false] at hu
 rcases hu with rfl | rfl | rfl | rfl | rfl | rfl | rfl <;> rfl
set_option maxRecDepth 100000 in
set_option maxHeartbeats 4000000 in
theorem sepE_any {F:Prop}(b g go c:Nat)(ts:List Rt)(nx dp:Nat)(L:List Ex)(hd:Nat→Nat)(w:World)(h:PS w b g go c ts nx dp)(h0:hd 0=nx)(hL0:0 < L.length)(hL:L.length≤100000)(hlen:ts.length≤100000)
  (hread:∀ (kk:Nat) (e:Ex),L[kk]?=some e→∀ w',w.grownBy w' (some b)→PS w' b g go c ts (if kk=0 then nx else hd kk+1) dp→Calls Tryz.prog 20 #[.pointer (some ⟨b,0,none⟩)] w' (OF F w' b g go c ts (ExprTo w' b g go c ts (hd (kk+1)) dp e)))
  (hcomma:∀ kk,0 < kk→kk < L.length→∃ t,ts[hd kk]?=some t∧t.s=[44])
  (hfirst:∃ t,ts[nx]?=some t)
  (hend:∃ t,ts[hd L.length]?=some t∧t.s≠[44]) :
  Calls Tryz.prog 149 #[.pointer (some ⟨b,0,none⟩),.string ⟨#[44]⟩,.func (.func 20) #[.pointer (some ⟨b,0,none⟩)] #[],.slice none 0 0] w (OF F w b g go c ts (ListTo w b g go c ts (hd L.length) dp L)):=by
 obtain ⟨i0,hi,hz0,hz1,hz2⟩:=info_parts infoEx
 have H:=Lib.hid h
 have hbl:=h.blt
 have hgl:=h.lt
 have HL:=Lib.hid hread
 have HC:=Lib.hid hcomma
 have HF:=Lib.hid hfirst
 have HD:=Lib.hid hend
 obtain ⟨n,hn⟩:∃ n,n=L.length:=⟨_,rfl⟩
 have HN:=Lib.hid hn
 have hn2:n≤100000:=by omega
 have hn1:0 < n:=by omega
 have H0:=Lib.hid h0
 rw [← hn] at HC HD
 clear h hread hcomma hfirst hend hn hL h0 hL0
 go_enter Tryz.func149,Tryz.ntmps149
 go_wp2_with fail
 go_step3
 go_wp2_with fail
 go_step3
 go_wp2_with fail
 go_loopw [8,9] (fun v f wr=>∃ (kk:Nat) (A':Option Addr) (c':Nat) (cl:List (List Value)),kk≤n∧((kk=0∧f=.bool true)∨(0 < kk∧f=.bool false))∧v=.slice A' kk c'∧Hid (wr.ownsRow w.heap.size 27 7 (.slice A' kk c') kk cl.flatten)∧Hid (CellsE (fun x=>w.heap.size≤x∧some x≠(Value.slice A' kk c').ownBlock) wr (L.take kk) cl)∧Hid (PS wr b g go c ts (hd kk) dp)∧Hid (w.grownBy wr (some b))) (fun v _ _=>n - slLen2 v)
 case atStart=>exact ⟨0,none,0,[],Nat.zero_le _,.inl ⟨rfl,rfl⟩,rfl,Lib.hid (World.ownsRow_nil _ _ _ _),Lib.hid ⟨by simp,fun j e c h1 h2=>by simp at h2⟩,by rw [H0.out];exact H,Lib.hid ⟨rfl,rfl,rfl,Nat.le_refl _,fun _ _ _=>rfl⟩⟩
 case round =>
  obtain ⟨kk,A',c',cl,hkk,hf,rfl,hO,hC,hP,hG⟩:=hrel
  rcases hf with ⟨h0,rfl⟩ | ⟨h0,rfl⟩
  ·subst h0
   obtain ⟨t,ht⟩:=HF.out
   rw [← H0.out] at ht
   obtain ⟨x,hx⟩:∃ x,x=L[0]'(by rw [← HN.out];exact hn1):=⟨_,rfl⟩
   have HX:Hid (L[0]?=some x):=Lib.hid (by rw [hx];exact List.getElem?_eq_getElem _)
   have HPk:=Lib.hid (peek_any b g go c ts (hd 0) dp t wr hP.out ht)
   obtain ⟨S,hS⟩:∃ S,S=strB t.s:=⟨_,rfl⟩
   have HCt:Hid (∀ w',Calls Tryz.prog 115 #[.slice none 0 0,.string S] w' fun e w''=>e=.returned (.bool false)∧w'=w''):=Lib.hid (fun w'=>by
    have:=contains_any (fun _=>True) none 0 [] t.s w' (fun h=>absurd rfl h) (by unfold maxLen;simp)
    rw [← hS] at this
    exact this)
   rw [← hS] at HPk
   have fl1:=tfield1
   clear hS ht hx
   go_wp2_with fail
   refine HPk.out.mono ?_
   rintro e w1 ⟨rfl,hb⟩
   have HP1:=Lib.hid (hP.out.below hb)
   have HO1:=Lib.hid (hO.out.kept (grown_below hb none) (by cases (Value.slice A' 0 c').ownBlock <;> simp))
   have HC1:=Lib.hid (hC.out.keep (Same.of_below hb))
   have HG1:=Lib.hid (grown_trans hG.out (grown_below hb _))
   clear hb
   go_wp2_with fail
   refine (HCt.out _).mono ?_
   rintro e w3 ⟨rfl,rfl⟩
   go_wp2_with fail
   have HLb:=Lib.hid (HL.out _ x HX.out)
   rw [if_pos rfl,← H0.out] at HLb
   refine (HLb.out _ HG1.out HP1.out).mono ?_
   rintro e w2 (⟨k,m,s,u,A0,n0,m0,A1,n1,m1,A2,n2,m2,rfl,hr,hw⟩ | ⟨hF,nxF,hnF,rfl,dpF,hpF,hgF⟩)
   rotate_left
   ·exact ⟨rfl,.inr ⟨hF,nxF,hnF,rfl,dpF,hpF,grown_trans HG1.out hgF⟩⟩
   have HP2:=Lib.hid hw.1
   have HO2:=Lib.hid (HO1.out.kept hw.2 (own_apart2 HO1.out hbl))
   have HC2:=Lib.hid ((HC1.out.keep (Same.of_grown hw.2 (fun x hx=>by have:=hx.1;simp;omega))).tight)
   have HG2:=Lib.hid (grown_trans HG1.out hw.2)
   have HR2:Hid (RepE (fun x=>(w.heap.size≤x∧some x≠(Value.slice A' 0 c').ownBlock)∧x < w2.heap.size) w2 x [.int .i64 k,.int .i64 m,.string s,.string u,.slice A0 n0 m0,.slice A1 n1 m1,.slice A2 n2 m2]):=Lib.hid (hr.tight.weaken (fun y hy=>⟨⟨by have:=HG1.out.size;have:=hy.1;omega,fun e=>by have:=(HO1.out.lt _ e.symm).2;have:=hy.1;omega⟩,hy.2⟩))
   have hzw2:=HG2.out.size
   clear hr hw HLb
   go_wp2_with (at_builtin;refine wpList_append_own_at _ rfl _ _ 24 rfl w.heap.size 27 i0 (.agg #[.int .i64 0,.int .i64 0,.string ⟨#[]⟩,.string ⟨#[]⟩,.slice none 0 0,.slice none 0 0,.slice none 0 0]) 7 120 Tryz.underlying24 hi hz0 hz1 hz2 rfl (by decide) _ _ _ rfl ((HO2.out.alloc _).alloc _) ⟨w2.heap.size+1,0,none⟩ 1 1 [.int .i64 k,.int .i64 m,.string s,.string u,.slice A0 n0 m0,.slice A1 n1 m1,.slice A2 n2 m2] rfl rfl (cell_ex2 w2 _ _ _ _ _ _ _) (ex_one _ _ _ _ _ _ _ _ _ _ _ _ _) (by unfold maxLen;omega) (by omega) (by simp;omega) ?_;intro v' w4 hown' hgrow _ hat;obtain ⟨A3,c3,rfl⟩:=own_slice hown';have HO4:=Lib.hid hown';have HGr:=Lib.hid hgrow;have HAt:=Lib.hid hat;clear hown' hgrow hat)
   have HP4:=Lib.hid ((HP2.out.kept (grown_trans (World.grownBy_alloc w2 _ none) (World.grownBy_alloc _ _ none)) (by simp) (by simp)).kept HGr.out (own_ne2 HO2.out hbl) (own_ne2 HO2.out hgl))
   have HG4:=Lib.hid (grown_own2 (grown_trans HG2.out (grown_trans (World.grownBy_alloc w2 _ _) (World.grownBy_alloc _ _ _))) HGr.out (fun k hk=>own_from2 HO2.out hk))
   have hsa:Same (fun x=>(w.heap.size≤x∧some x≠(Value.slice A' 0 c').ownBlock)∧x < w2.heap.size) w2 w4:=(Same.of_grown (grown_trans (World.grownBy_alloc w2 _ none) (World.grownBy_alloc _ _ none)) (fun x hx=>by simp)).trans (Same.of_grown HGr.out (fun x hx=>hx.1.2))
   have HTk:Hid (L.take (0+1)=L.take 0++[x]):=Lib.hid (by rw [List.take_add_one,HX.out];rfl)
   have HC4:Hid (CellsE (fun x=>w.heap.size≤x∧some x≠(Value.slice A3 (0+1) c3).ownBlock) w4 (L.take (0+1)) (cl++[[.int .i64 k,.int .i64 m,.string s,.string u,.slice A0 n0 m0,.slice A1 n1 m1,.slice A2 n2 m2]])):=Lib.hid (by
    rw [HTk.out]
    refine ((HC2.out.keep hsa).snoc (HR2.out.keep hsa)).weaken fun y hy=>⟨hy.1.1,?_⟩
    rcases HAt.out with e | e
    ·rw [e];exact hy.1.2
    ·rw [e]
     intro e2
     have e3:=Option.some.inj e2
     have:=hy.2
     simp at e3
     omega)
   go_roundw
   case rel=>exact ⟨0+1,A3,c3,_,by omega,.inr ⟨by omega,rfl⟩,rfl,Lib.hid (by rw [List.flatten_append];simpa using HO4.out),HC4,HP4,HG4⟩
   case measure=>simp [slLen2];omega
  ·have hks:kk≠0:=by omega
   by_cases hkn:kk < n
   ·obtain ⟨t,ht,hts⟩:=HC.out kk h0 hkn
    obtain ⟨x,hx⟩:∃ x,x=L[kk]'(by rw [← HN.out];exact hkn):=⟨_,rfl⟩
    have HX:Hid (L[kk]?=some x):=Lib.hid (by rw [hx];exact List.getElem?_eq_getElem _)
    have HSk:=Lib.hid (skip_yes b g go c ts (hd kk) dp t ⟨#[44]⟩ wr hP.out ht hts hlen)
    clear hts ht hx
    go_wp2_with fail
    refine HSk.out.mono ?_
    rintro e w1 ⟨rfl,hw⟩
    have HP1:=Lib.hid hw.1
    have HO1:=Lib.hid (hO.out.kept hw.2 (own_apart2 hO.out hbl))
    have HC1:=Lib.hid (hC.out.keep (Same.of_grown hw.2 (fun x hx=>by have:=hx.1;simp;omega)))
    have HG1:=Lib.hid (grown_trans hG.out hw.2)
    clear hw
    go_wp2_with fail
    have HLb:=Lib.hid (HL.out _ x HX.out)
    rw [if_neg hks] at HLb
    refine (HLb.out _ HG1.out HP1.out).mono ?_
    rintro e w2 (⟨k,m,s,u,A0,n0,m0,A1,n1,m1,A2,n2,m2,rfl,hr,hw⟩ | ⟨hF,nxF,hnF,rfl,dpF,hpF,hgF⟩)
    rotate_left
    ·exact ⟨rfl,.inr ⟨hF,nxF,hnF,rfl,dpF,hpF,grown_trans HG1.out hgF⟩⟩
    have HP2:=Lib.hid hw.1
    have HO2:=Lib.hid (HO1.out.kept hw.2 (own_apart2 HO1.out hbl))
    have HC2:=Lib.hid ((HC1.out.keep (Same.of_grown hw.2 (fun x hx=>by have:=hx.1;simp;omega))).tight)
    have HG2:=Lib.hid (grown_trans HG1.out hw.2)
    have HR2:Hid (RepE (fun x=>(w.heap.size≤x∧some x≠(Value.slice A' kk c').ownBlock)∧x < w2.heap.size) w2 x [.int .i64 k,.int .i64 m,.string s,.string u,.slice A0 n0 m0,.slice A1 n1 m1,.slice A2 n2 m2]):=Lib.hid (hr.tight.weaken (fun y hy=>⟨⟨by have:=HG1.out.size;have:=hy.1;omega,fun e=>by have:=(HO1.out.lt _ e.symm).2;have:=hy.1;omega⟩,hy.2⟩))
    have hzw2:=HG2.out.size
    clear hr hw HLb
    go_wp2_with (at_builtin;refine wpList_append_own_at _ rfl _ _ 24 rfl w.heap.size 27 i0 (.agg #[.int .i64 0,.int .i64 0,.string ⟨#[]⟩,.string ⟨#[]⟩,.slice none 0 0,.slice none 0 0,.slice none 0 0]) 7 120 Tryz.underlying24 hi hz0 hz1 hz2 rfl (by decide) _ _ _ rfl ((HO2.out.alloc _).alloc _) ⟨w2.heap.size+1,0,none⟩ 1 1 [.int .i64 k,.int .i64 m,.string s,.string u,.slice A0 n0 m0,.slice A1 n1 m1,.slice A2 n2 m2] rfl rfl (cell_ex2 w2 _ _ _ _ _ _ _) (ex_one _ _ _ _ _ _ _ _ _ _ _ _ _) (by unfold maxLen;omega) (by omega) (by simp;omega) ?_;intro v' w4 hown' hgrow _ hat;obtain ⟨A3,c3,rfl⟩:=own_slice hown';have HO4:=Lib.hid hown';have HGr:=Lib.hid hgrow;have HAt:=Lib.hid hat;clear hown' hgrow hat)
    have HP4:=Lib.hid ((HP2.out.kept (grown_trans (World.grownBy_alloc w2 _ none) (World.grownBy_alloc _ _ none)) (by simp) (by simp)).kept HGr.out (own_ne2 HO2.out hbl) (own_ne2 HO2.out hgl))
    have HG4:=Lib.hid (grown_own2 (grown_trans HG2.out (grown_trans (World.grownBy_alloc w2 _ _) (World.grownBy_alloc _ _ _))) HGr.out (fun k hk=>own_from2 HO2.out hk))
    have hsa:Same (fun x=>(w.heap.size≤x∧some x≠(Value.slice A' kk c').ownBlock)∧x < w2.heap.size) w2 w4:=(Same.of_grown (grown_trans (World.grownBy_alloc w2 _ none) (World.grownBy_alloc _ _ none)) (fun x hx=>by simp)).trans (Same.of_grown HGr.out (fun x hx=>hx.1.2))
    have HTk:Hid (L.take (kk+1)=L.take kk++[x]):=Lib.hid (by rw [List.take_add_one,HX.out];rfl)
    have HC4:Hid (CellsE (fun x=>w.heap.size≤x∧some x≠(Value.slice A3 (kk+1) c3).ownBlock) w4 (L.take (kk+1)) (cl++[[.int .i64 k,.int .i64 m,.string s,.string u,.slice A0 n0 m0,.slice A1 n1 m1,.slice A2 n2 m2]])):=Lib.hid (by
     rw [HTk.out]
     refine ((HC2.out.keep hsa).snoc (HR2.out.keep hsa)).weaken fun y hy=>⟨hy.1.1,?_⟩
     rcases HAt.out with e | e
     ·rw [e];exact hy.1.2
     ·rw [e]
      intro e2
      have e3:=Option.some.inj e2
      have:=hy.2
      simp at e3
      omega)
    go_roundw
    case rel=>exact ⟨kk+1,A3,c3,_,by omega,.inr ⟨by omega,rfl⟩,rfl,Lib.hid (by rw [List.flatten_append];simpa using HO4.out),HC4,HP4,HG4⟩
    case measure=>simp [slLen2];omega
   ·obtain rfl:kk=n:=by omega
    obtain ⟨t,ht,hts⟩:=HD.out
    have HSk:=Lib.hid (skip_no b g go c ts (hd kk) dp t ⟨#[44]⟩ wr hP.out ht hts)
    clear hts ht
    go_wp2_with fail
    refine HSk.out.mono ?_
    rintro e w1 ⟨rfl,hb⟩
    have HP1:=Lib.hid (hP.out.below hb)
    have HO1:=Lib.hid (hO.out.kept (grown_below hb none) (by cases (Value.slice A' kk c').ownBlock <;> simp))
    have HC1:=Lib.hid (hC.out.keep (Same.of_below hb))
    have HG1:=Lib.hid (grown_trans hG.out (grown_below hb _))
    clear hb
    go_wp2_with fail
    rw [Exit.noGoto_ret]
    go_ret
    refine .inl ?_
    have hcl:=HC1.out.weaken (Q:=fun x=>w.heap.size≤x) (fun x hx=>hx.1)
    rw [List.take_of_length_le (by rw [← HN.out];exact Nat.le_refl _)] at hcl
    obtain ⟨l1,l2,l3⟩:=hcl.list HN.out HO1.out
    exact ⟨A',c',by rw [← HN.out];rfl,l1,by rw [← HN.out];exact ⟨l2,l3⟩,by rw [← HN.out];exact ⟨HP1.out,HG1.out⟩⟩
theorem res_con {tmps:Array Value}{w:World}{g:Nat}{v0 v1 v2 v3 v4 v5 v6:Value}(h2:tmps.getD 2 undef=.pointer (some ⟨g,0,none⟩))(h:EB w g v0 v1 v2 v3 v4 v5 v6) :
  (results Tryz.f142 tmps).run Tryz.prog w=.ok (.agg #[v0,v1,v2,v3,v4,v5,v6]) w:=by
 have c0:=h.c0
 have c1:=h.c1
 have c2:=h.c2
 have c3:=h.c3
 have c4:=h.c4
 have c5:=h.c5
 have c6:=h.c6
 have h2':tmps[2]?.getD undef=.pointer (some ⟨g,0,none⟩):=by simpa using h2
 simp [results,Tryz.results142,go_sem,h2',c0,c1,c2,c3,c4,c5,c6]
set_option maxRecDepth 100000 in
set_option maxHeartbeats 2000000 in
theorem con_plain {F:Prop}(b g go c:Nat)(ts:List Rt)(nx dp:Nat)(t t1:Rt)(w:World)(h:PS w b g go c ts nx dp)(ht:ts[nx]?=some t)(hk:t.k=2)(ht1:ts[nx+1]?=some t1)(hs1:t1.s≠[91])(hlen:ts.length≤100000)(hok:okS t.s) :
  Calls Tryz.prog 142 #[.pointer (some ⟨b,0,none⟩)] w (OF F w b g go c ts (ExprTo w b g go c ts (nx+1) dp (.mk 10 0 t.s [] [] [] [] []))):=by
 have HS:=Lib.hid (fun w h=>skip_no b g go c ts (nx+1) dp t1 ⟨#[91]⟩ w h ht1 hs1)
 have HU:=Lib.hid (fun w h=>upper_ok b g go c ts nx dp t w h ht hk hlen)
 have H:=Lib.hid h
 have hbl:=h.blt
 have hgl:=h.lt
 obtain ⟨S,hS⟩:∃ S,S=strB t.s:=⟨_,rfl⟩
 rw [← hS] at HU
 have HSe:=Lib.hid hS
 have HOk:=Lib.hid hok
 clear h ht hk ht1 hs1 hlen hS hok
 go_enter Tryz.func142,Tryz.ntmps142
 go_wp2_with fail
 have H0:=Lib.hid (H.out.below (WH0_below w))
 refine (HU.out _ H0.out).mono ?_
 rintro e w1 ⟨rfl,hw⟩
 have H1:=Lib.hid hw.1
 have HE1:=Lib.hid ((WH0_E w).kept hw.2 (by simp;omega))
 have HG1:=Lib.hid (grown_trans (grown_below (WH0_below w) (some b)) hw.2)
 have hz1:w.heap.size < w1.heap.size:=HE1.out.lt
 clear hw
 go_wp2_with fail
 obtain ⟨W2,hW2⟩:∃ W2,w1.alloc (.cells #[.int .i64 10,.int .i64 0,.string S,.string ⟨#[]⟩,.slice none 0 0,.slice none 0 0,.slice none 0 0] 27)=W2:=⟨_,rfl⟩
 have hg2:w1.grownBy W2 none:=by rw [← hW2];exact World.grownBy_alloc _ _ _
 have hz2:w1.heap.size < W2.heap.size:=by rw [← hW2];simp
 have HU2:Hid (EB W2 w1.heap.size (.int .i64 10) (.int .i64 0) (.string S) (.string ⟨#[]⟩) (.slice none 0 0) (.slice none 0 0) (.slice none 0 0)):=Lib.hid (by rw [← hW2];exact EB.new w1 _ _ _ _ _ _ _)
 rw [hW2]
 have H2:=Lib.hid (H1.out.kept hg2 (by simp) (by simp))
 have HE2:=Lib.hid (HE1.out.kept hg2 (by simp))
 have HG2:=Lib.hid (grown_trans HG1.out (Below.grownBy' hg2))
 clear hW2 hg2
 refine (HS.out _ H2.out).mono ?_
 rintro e w3 ⟨rfl,hb⟩
 have H3:=Lib.hid (H2.out.below hb)
 have HE3:=Lib.hid (HE2.out.kept (grown_below hb none) (by simp))
 have HU3:=Lib.hid (HU2.out.kept (grown_below hb none) (by simp))
 have HG3:=Lib.hid (grown_trans HG2.out (grown_below hb _))
 have hz3:=hb.size
 have e0:=HE3.out.c0
 have r0:=HE3.out.fr 0
 have e1:=HE3.out.c1
 have r1:=HE3.out.fr 1
 have e2:=HE3.out.c2
 have r2:=HE3.out.fr 2
 have e3:=HE3.out.c3
 have r3:=HE3.out.fr 3
 have e4:=HE3.out.c4
 have r4:=HE3.out.fr 4
 have e5:=HE3.out.c5
 have r5:=HE3.out.fr 5
 have e6:=HE3.out.c6
 have r6:=HE3.out.fr 6
 have d0:=HU3.out.c0
 have d1:=HU3.out.c1
 have d2:=HU3.out.c2
 have d3:=HU3.out.c3
 have d4:=HU3.out.c4
 have d5:=HU3.out.c5
 have d6:=HU3.out.c6
 clear hb
 go_wp2_with fail
 exact bodyPost_retF (res_con rfl (HE3.out.all _ _ _ _ _ _ _)) rfl ⟨10,0,S,⟨#[]⟩,none,0,0,none,0,0,none,0,0,rfl,by rw [HSe.out];exact rep_leaf (okN_small (by omega)) (okN_small (by omega)) HOk.out,H3.out.kept (set7_grown _ _ _ _ _ _ _ _ _) (by simp;omega) (by simp;omega),grown_7 HG3.out (Nat.le_refl _) _ _ _ _ _ _ _⟩
set_option maxRecDepth 100000 in
set_option maxHeartbeats 2000000 in
theorem con_list {F:Prop}(b g go c:Nat)(ts:List Rt)(nx nx1 dp:Nat)(t t1 t2:Rt)(l:List Ex)(w:World)(h:PS w b g go c ts nx dp)(ht:ts[nx]?=some t)(hk:t.k=2)(ht1:ts[nx+1]?=some t1)(hs1:t1.s=[91])(ht2:ts[nx1]?=some t2)(hs2:t2.s=[93])(hlen:ts.length≤100000)(hok:okS t.s)
  (HSep:Hid (∀ w',w.grownBy w' (some b)→PS w' b g go c ts (nx+1+1) dp→Calls Tryz.prog 149 #[.pointer (some ⟨b,0,none⟩),.string ⟨#[44]⟩,.func (.func 20) #[.pointer (some ⟨b,0,none⟩)] #[],.slice none 0 0] w' (OF F w' b g go c ts (ListTo w' b g go c ts nx1 dp l)))) :
  Calls Tryz.prog 142 #[.pointer (some ⟨b,0,none⟩)] w (OF F w b g go c ts (ExprTo w b g go c ts (nx1+1) dp (.mk 10 0 t.s [] [] l [] []))):=by
 have HS:=Lib.hid (fun w h=>skip_yes b g go c ts (nx+1) dp t1 ⟨#[91]⟩ w h ht1 hs1 hlen)
 have HN:=Lib.hid (fun w h=>need_ok b g go c ts nx1 dp t2 ⟨#[93]⟩ w h ht2 hs2 hlen)
 have hmf:∀ (fn:Fn) (first cap:Array Value) (w:World),(Instr.makeFunc fn first cap).run Tryz.prog w=.ok (.func fn first cap) w:=fun _ _ _ _=>rfl
 have HU:=Lib.hid (fun w h=>upper_ok b g go c ts nx dp t w h ht hk hlen)
 have H:=Lib.hid h
 have hbl:=h.blt
 have hgl:=h.lt
 obtain ⟨S,hS⟩:∃ S,S=strB t.s:=⟨_,rfl⟩
 rw [← hS] at HU
 have HSe:=Lib.hid hS
 have HOk:=Lib.hid hok
 clear h ht hk ht1 hs1 hlen hS hok ht2 hs2
 go_enter Tryz.func142,Tryz.ntmps142
 go_wp2_with fail
 have H0:=Lib.hid (H.out.below (WH0_below w))
 refine (HU.out _ H0.out).mono ?_
 rintro e w1 ⟨rfl,hw⟩
 have H1:=Lib.hid hw.1
 have HE1:=Lib.hid ((WH0_E w).kept hw.2 (by simp;omega))
 have HG1:=Lib.hid (grown_trans (grown_below (WH0_below w) (some b)) hw.2)
 have hz1:w.heap.size < w1.heap.size:=HE1.out.lt
 clear hw
 go_wp2_with fail
 obtain ⟨W2,hW2⟩:∃ W2,w1.alloc (.cells #[.int .i64 10,.int .i64 0,.string S,.string ⟨#[]⟩,.slice none 0 0,.slice none 0 0,.slice none 0 0] 27)=W2:=⟨_,rfl⟩
 have hg2:w1.grownBy W2 none:=by rw [← hW2];exact World.grownBy_alloc _ _ _
 have hz2:w1.heap.size < W2.heap.size:=by rw [← hW2];simp
 have HU2:Hid (EB W2 w1.heap.size (.int .i64 10) (.int .i64 0) (.string S) (.string ⟨#[]⟩) (.slice none 0 0) (.slice none 0 0) (.slice none 0 0)):=Lib.hid (by rw [← hW2];exact EB.new w1 _ _ _ _ _ _ _)
 rw [hW2]
 have H2:=Lib.hid (H1.out.kept hg2 (by simp) (by simp))
 have HE2:=Lib.hid (HE1.out.kept hg2 (by simp))
 have HG2:=Lib.hid (grown_trans HG1.out (Below.grownBy' hg2))
 clear hW2 hg2
 refine (HS.out _ H2.out).mono ?_
 rintro e w3 ⟨rfl,hw⟩
 have H3:=Lib.hid hw.1
 have HE3:=Lib.hid (HE2.out.kept hw.2 (by simp;omega))
 have HU3:=Lib.hid (HU2.out.kept hw.2 (by simp;omega))
 have HG3:=Lib.hid (grown_trans HG2.out hw.2)
 have hz3:=hw.2.size
 clear hw
 go_wp2_with fail
 refine (HSep.out _ HG3.out H3.out).mono ?_
 rintro e w4 (⟨A,cap,rfl,hl,hcp,hw⟩ | ⟨hF,nxF,hnF,rfl,dpF,hpF,hgF⟩)
 rotate_left
 ·exact ⟨rfl,.inr ⟨hF,nxF,hnF,rfl,dpF,hpF,grown_trans HG3.out hgF⟩⟩
 have H4:=Lib.hid hw.1
 have HE4:=Lib.hid (HE3.out.kept hw.2 (by simp;omega))
 have HU4:=Lib.hid (HU3.out.kept hw.2 (by simp;omega))
 have HG4:=Lib.hid (grown_trans HG3.out hw.2)
 have HL4:=Lib.hid hl
 have HCp:=Lib.hid hcp
 have hz4:=hw.2.size
 have d5:=HU4.out.c5
 have s5:=HU4.out.fr 5
 have q1:¬ w1.heap.size=b:=by omega
 have q2:¬ b=w1.heap.size:=by omega
 clear hw hl hcp
 go_wp2_with fail
 have hgs:w4.grownBy (w4.setCell ⟨w1.heap.size,5,none⟩ (.slice A l.length cap)) (some w1.heap.size):=grown_set w4 ⟨w1.heap.size,5,none⟩ _
 have hU5:EB (w4.setCell ⟨w1.heap.size,5,none⟩ (.slice A l.length cap)) w1.heap.size (.int .i64 10) (.int .i64 0) (.string S) (.string ⟨#[]⟩) (.slice none 0 0) (.slice A l.length cap) (.slice none 0 0):=by
  have:=HU4.out
  unfold EB at this ⊢
  simp [World.setCell,Array.getElem?_modify,this]
 obtain ⟨W5,hW5⟩:∃ W5,w4.setCell ⟨w1.heap.size,5,none⟩ (.slice A l.length cap)=W5:=⟨_,rfl⟩
 rw [hW5] at hgs hU5 ⊢
 have HU5:=Lib.hid hU5
 have H5:=Lib.hid (H4.out.kept hgs (by simp;omega) (by simp;omega))
 have HE5:=Lib.hid (HE4.out.kept hgs (by simp;omega))
 have HG5:Hid (w.grownBy W5 (some b)):=Lib.hid (by rw [← hW5];exact grown_new HG4.out (by omega) _)
 have HS5:Hid (Same (fun x=>w3.heap.size≤x) w4 W5):=Lib.hid (Same.of_grown hgs (fun x hx=>by simp;omega))
 have hz5:=hgs.size
 clear hW5 hU5 hgs d5 s5
 refine (HN.out _ H5.out).mono ?_
 rintro e w6 ⟨rfl,hw⟩
 have H6:=Lib.hid hw.1
 have HE6:=Lib.hid (HE5.out.kept hw.2 (by simp;omega))
 have HU6:=Lib.hid (HU5.out.kept hw.2 (by simp;omega))
 have HG6:=Lib.hid (grown_trans HG5.out hw.2)
 have HS6:Hid (Same (fun x=>w3.heap.size≤x) w4 w6):=Lib.hid (HS5.out.trans (Same.of_grown hw.2 (fun x hx=>by simp;omega)))
 have hz6:=hw.2.size
 have e0:=HE6.out.c0
 have r0:=HE6.out.fr 0
 have e1:=HE6.out.c1
 have r1:=HE6.out.fr 1
 have e2:=HE6.out.c2
 have r2:=HE6.out.fr 2
 have e3:=HE6.out.c3
 have r3:=HE6.out.fr 3
 have e4:=HE6.out.c4
 have r4:=HE6.out.fr 4
 have e5:=HE6.out.c5
 have r5:=HE6.out.fr 5
 have e6:=HE6.out.c6
 have r6:=HE6.out.fr 6
 have d0:=HU6.out.c0
 have d1:=HU6.out.c1
 have d2:=HU6.out.c2
 have d3:=HU6.out.c3
 have d4:=HU6.out.c4
 have d5:=HU6.out.c5
 have d6:=HU6.out.c6
 clear hw
 go_wp2_with fail
 have hS7:=HS6.out.trans (Same.of_grown (set7_grown w6 w.heap.size (.int .i64 10) (.int .i64 0) (.string S) (.string ⟨#[]⟩) (.slice none 0 0) (.slice A l.length cap) (.slice none 0 0)) (fun x (hx:w3.heap.size≤x)=>by simp;omega))
 refine bodyPost_retF (res_con rfl (HE6.out.all _ _ _ _ _ _ _)) rfl ⟨10,0,S,⟨#[]⟩,none,0,0,A,l.length,cap,none,0,0,rfl,⟨none,0,A,cap,none,0,by rw [HSe.out];rfl,⟨okN_small (by omega),okN_small (by omega),HOk.out,Nat.zero_le _,by simp,⟨Nat.le_refl _,Nat.zero_le _⟩,HCp.out,⟨Nat.le_refl _,Nat.zero_le _⟩⟩,fun h=>absurd rfl h,fun h0=>?_,fun h=>absurd rfl h,rfl⟩,H6.out.kept (set7_grown _ _ _ _ _ _ _ _ _) (by simp;omega) (by simp;omega),grown_7 HG6.out (Nat.le_refl _) _ _ _ _ _ _ _⟩
 obtain ⟨x,off,e,h1,h2,h3⟩:=HL4.out h0
 exact ⟨x,off,e,by omega,Nat.lt_of_lt_of_le h2 hS7.1,(h3.keep hS7 h1 h2).weaken (fun y hy=>by omega)⟩
theorem res_par {tmps:Array Value}{w:World}{g:Nat}{v0 v1 v2 v3 v4 v5 v6:Value}(h2:tmps.getD 2 undef=.pointer (some ⟨g,0,none⟩))(h:EB w g v0 v1 v2 v3 v4 v5 v6) :
  (results Tryz.f153 tmps).run Tryz.prog w=.ok (.agg #[v0,v1,v2,v3,v4,v5,v6]) w:=by
 have c0:=h.c0
 have c1:=h.c1
 have c2:=h.c2
 have c3:=h.c3
 have c4:=h.c4
 have c5:=h.c5
 have c6:=h.c6
 have h2':tmps[2]?.getD undef=.pointer (some ⟨g,0,none⟩):=by simpa using h2
 simp [results,Tryz.results153,go_sem,h2',c0,c1,c2,c3,c4,c5,c6]
set_option maxRecDepth 100000 in
set_option maxHeartbeats 2000000 in
theorem par_unit {F:Prop}(b g go c:Nat)(ts:List Rt)(nx dp:Nat)(t t1:Rt)(w:World)(h:PS w b g go c ts nx dp)(ht:ts[nx]?=some t)(hs:t.s=[40])(ht1:ts[nx+1]?=some t1)(hs1:t1.s=[41])(hlen:ts.length≤100000) :
  Calls Tryz.prog 153 #[.pointer (some ⟨b,0,none⟩)] w (OF F w b g go c ts (ExprTo w b g go c ts (nx+1+1) dp (.mk 3 0 [] [] [] [] [] []))):=by
 have HN:=Lib.hid (fun w h=>need_ok b g go c ts nx dp t ⟨#[40]⟩ w h ht hs hlen)
 have HY:=Lib.hid (fun w h=>skip_yes b g go c ts (nx+1) dp t1 ⟨#[41]⟩ w h ht1 hs1 hlen)
 have H:=Lib.hid h
 have hbl:=h.blt
 have hgl:=h.lt
 clear h ht hs ht1 hs1 hlen
 go_enter Tryz.func153,Tryz.ntmps153
 go_wp2_with fail
 have H0:=Lib.hid (H.out.below (WH0_below w))
 refine (HN.out _ H0.out).mono ?_
 rintro e w1 ⟨rfl,hw⟩
 have H1:=Lib.hid hw.1
 have HE1:=Lib.hid ((WH0_E w).kept hw.2 (by simp;omega))
 have HG1:=Lib.hid (grown_trans (grown_below (WH0_below w) (some b)) hw.2)
 have hz1:w.heap.size < w1.heap.size:=HE1.out.lt
 clear hw
 go_wp2_with fail
 refine (HY.out _ H1.out).mono ?_
 rintro e w2 ⟨rfl,hw⟩
 have H2:=Lib.hid hw.1
 have HE2:=Lib.hid (HE1.out.kept hw.2 (by simp;omega))
 have HG2:=Lib.hid (grown_trans HG1.out hw.2)
 have hz2:w.heap.size < w2.heap.size:=HE2.out.lt
 clear hw
 have e0:=HE2.out.c0
 have r0:=HE2.out.fr 0
 have e1:=HE2.out.c1
 have r1:=HE2.out.fr 1
 have e2:=HE2.out.c2
 have r2:=HE2.out.fr 2
 have e3:=HE2.out.c3
 have r3:=HE2.out.fr 3
 have e4:=HE2.out.c4
 have r4:=HE2.out.fr 4
 have e5:=HE2.out.c5
 have r5:=HE2.out.fr 5
 have e6:=HE2.out.c6
 have r6:=HE2.out.fr 6
 go_wp2_with fail
 exact bodyPost_retF (res_par rfl (HE2.out.all _ _ _ _ _ _ _)) rfl ⟨3,0,⟨#[]⟩,⟨#[]⟩,none,0,0,none,0,0,none,0,0,rfl,rep_leaf (s:=[]) (okN_small (by omega)) (okN_small (by omega)) okS_nil,H2.out.kept (set7_grown _ _ _ _ _ _ _ _ _) (by simp;omega) (by simp;omega),grown_7 HG2.out (Nat.le_refl _) _ _ _ _ _ _ _⟩
set_option maxRecDepth 100000 in
set_option maxHeartbeats 2000000 in
theorem par_neg {F:Prop}(b g go c:Nat)(ts:List Rt)(nx dp:Nat)(t t1 t2 t3:Rt)(w:World)(h:PS w b g go c ts nx dp)(ht:ts[nx]?=some t)(hs:t.s=[40])(ht1:ts[nx+1]?=some t1)(hs1:t1.s=[45])(ht2:ts[nx+1+1]?=some t2)(hk2:t2.k=3)(hn2:0≤t2.n∧t2.n≤999999999)(ht3:ts[nx+1+1+1]?=some t3)(hs3:t3.s=[41])(hlen:ts.length≤100000) :
  Calls Tryz.prog 153 #[.pointer (some ⟨b,0,none⟩)] w (OF F w b g go c ts (ExprTo w b g go c ts (nx+1+1+1+1) dp (.mk 1 (-t2.n) [] [] [] [] [] []))):=by
 have HN:=Lib.hid (fun w h=>need_ok b g go c ts nx dp t ⟨#[40]⟩ w h ht hs hlen)
 have HO:=Lib.hid (fun w h=>skip_no b g go c ts (nx+1) dp t1 ⟨#[41]⟩ w h ht1 (by rw [hs1];decide))
 have HY:=Lib.hid (fun w h=>skip_yes b g go c ts (nx+1) dp t1 ⟨#[45]⟩ w h ht1 hs1 hlen)
 have HT:=Lib.hid (fun w h=>token_ok b g go c ts (nx+1+1) dp t2 w h ht2 hlen)
 rw [hk2] at HT
 have HN3:=Lib.hid (fun w h=>need_ok b g go c ts (nx+1+1+1) dp t3 ⟨#[41]⟩ w h ht3 hs3 hlen)
 have fl2:=tfield2
 have H:=Lib.hid h
 have hbl:=h.blt
 have hgl:=h.lt
 obtain ⟨U,hU⟩:∃ U,U=strB t2.s:=⟨_,rfl⟩
 obtain ⟨m,hm⟩:∃ m,m=t2.n:=⟨_,rfl⟩
 rw [← hU,← hm] at HT
 rw [← hm] at hn2 ⊢
 obtain ⟨m1,m2⟩:=hn2
 have hwr:IntKind.i64.wrap (-m)=-m:=IntWalk.i64_in _ (by omega)
 clear h ht hs ht1 hs1 hlen hU hm ht2 hk2 ht3 hs3
 go_enter Tryz.func153,Tryz.ntmps153
 go_wp2_with fail
 have H0:=Lib.hid (H.out.below (WH0_below w))
 refine (HN.out _ H0.out).mono ?_
 rintro e w1 ⟨rfl,hw⟩
 have H1:=Lib.hid hw.1
 have HE1:=Lib.hid ((WH0_E w).kept hw.2 (by simp;omega))
 have HG1:=Lib.hid (grown_trans (grown_below (WH0_below w) (some b)) hw.2)
 have hz1:w.heap.size < w1.heap.size:=HE1.out.lt
 clear hw
 go_wp2_with fail
 refine (HO.out _ H1.out).mono ?_
 rintro e w2 ⟨rfl,hb⟩
 have H2:=Lib.hid (H1.out.below hb)
 have HE2:=Lib.hid (HE1.out.kept (grown_below hb none) (by simp))
 have HG2:=Lib.hid (grown_trans HG1.out (grown_below hb _))
 have hz2:w.heap.size < w2.heap.size:=HE2.out.lt
 clear hb
 go_wp2_with fail
 refine (HY.out _ H2.out).mono ?_
 rintro e w3 ⟨rfl,hw⟩
 have H3:=Lib.hid hw.1
 have HE3:=Lib.hid (HE2.out.kept hw.2 (by simp;omega))
 have HG3:=Lib.hid (grown_trans HG2.out hw.2)
 have hz3:w.heap.size < w3.heap.size:=HE3.out.lt
 clear hw
 go_wp2_with fail
 refine (HT.out _ H3.out).mono ?_
 rintro e w4 ⟨rfl,hw⟩
 have H4:=Lib.hid hw.1
 have HE4:=Lib.hid (HE3.out.kept hw.2 (by simp;omega))
 have HG4:=Lib.hid (grown_trans HG3.out hw.2)
 have hz4:w.heap.size < w4.heap.size:=HE4.out.lt
 clear hw
 go_wp2_with fail
 refine (HN3.out _ H4.out).mono ?_
 rintro e w5 ⟨rfl,hw⟩
 have H5:=Lib.hid hw.1
 have HE5:=Lib.hid (HE4.out.kept hw.2 (by simp;omega))
 have HG5:=Lib.hid (grown_trans HG4.out hw.2)
 have hz5:w.heap.size < w5.heap.size:=HE5.out.lt
 clear hw
 have e0:=HE5.out.c0
 have r0:=HE5.out.fr 0
 have e1:=HE5.out.c1
 have r1:=HE5.out.fr 1
 have e2:=HE5.out.c2
 have r2:=HE5.out.fr 2
 have e3:=HE5.out.c3
 have r3:=HE5.out.fr 3
 have e4:=HE5.out.c4
 have r4:=HE5.out.fr 4
 have e5:=HE5.out.c5
 have r5:=HE5.out.fr 5
 have e6:=HE5.out.c6
 have r6:=HE5.out.fr 6
 go_wp2_with fail
 exact bodyPost_retF (res_par rfl (HE5.out.all _ _ _ _ _ _ _)) rfl ⟨1,-m,⟨#[]⟩,⟨#[]⟩,none,0,0,none,0,0,none,0,0,rfl,rep_leaf (s:=[]) (okN_small (by omega)) (by unfold okN;omega) okS_nil,H5.out.kept (set7_grown _ _ _ _ _ _ _ _ _) (by simp;omega) (by simp;omega),grown_7 HG5.out (Nat.le_refl _) _ _ _ _ _ _ _⟩
set_option maxRecDepth 100000 in
set_option maxHeartbeats 2000000 in
theorem par_expr {F:Prop}(b g go c:Nat)(ts:List Rt)(nx nx1 dp:Nat)(t t1 t3:Rt)(e0:Ex)(w:World)(h:PS w b g go c ts nx dp)(ht:ts[nx]?=some t)(hs:t.s=[40])(ht1:ts[nx+1]?=some t1)(hs1:t1.s≠[41]∧t1.s≠[45])(ht3:ts[nx1]?=some t3)(hs3:t3.s=[41])(hlen:ts.length≤100000)
  (HX:Hid (∀ w',w.grownBy w' (some b)→PS w' b g go c ts (nx+1) dp→Calls Tryz.prog 20 #[.pointer (some ⟨b,0,none⟩)] w' (OF F w' b g go c ts (ExprTo w' b g go c ts nx1 dp e0)))) :
  Calls Tryz.prog 153 #[.pointer (some ⟨b,0,none⟩)] w (OF F w b g go c ts (ExprTo w b g go c ts (nx1+1) dp e0)):=by
 have HN:=Lib.hid (fun w h=>need_ok b g go c ts nx dp t ⟨#[40]⟩ w h ht hs hlen)
 have HO:=Lib.hid (fun w h=>skip_no b g go c ts (nx+1) dp t1 ⟨#[41]⟩ w h ht1 hs1.1)
 have HY:=Lib.hid (fun w h=>skip_no b g go c ts (nx+1) dp t1 ⟨#[45]⟩ w h ht1 hs1.2)
 have HN3:=Lib.hid (fun w h=>need_ok b g go c ts nx1 dp t3 ⟨#[41]⟩ w h ht3 hs3 hlen)
 have H:=Lib.hid h
 have hbl:=h.blt
 have hgl:=h.lt
 clear h ht hs ht1 hs1 hlen ht3 hs3
 go_enter Tryz.func153,Tryz.ntmps153
 go_wp2_with fail
 have H0:=Lib.hid (H.out.below (WH0_below w))
 refine (HN.out _ H0.out).mono ?_
 rintro e w1 ⟨rfl,hw⟩
 have H1:=Lib.hid hw.1
 have HE1:=Lib.hid ((WH0_E w).kept hw.2 (by simp;omega))
 have HG1:=Lib.hid (grown_trans (grown_below (WH0_below w) (some b)) hw.2)
 have hz1:w.heap.size < w1.heap.size:=HE1.out.lt
 clear hw
 go_wp2_with fail
 refine (HO.out _ H1.out).mono ?_
 rintro e w2 ⟨rfl,hb⟩
 have H2:=Lib.hid (H1.out.below hb)
 have HE2:=Lib.hid (HE1.out.kept (grown_below hb none) (by simp))
 have HG2:=Lib.hid (grown_trans HG1.out (grown_below hb _))
 have hz2:w.heap.size < w2.heap.size:=HE2.out.lt
 clear hb
 go_wp2_with fail
 refine (HY.out _ H2.out).mono ?_
 rintro e w3 ⟨rfl,hb⟩
 have H3:=Lib.hid (H2.out.below hb)
 have HE3:=Lib.hid (HE2.out.kept (grown_below hb none) (by simp))
 have HG3:=Lib.hid (grown_trans HG2.out (grown_below hb _))
 have hz3:w.heap.size < w3.heap.size:=HE3.out.lt
 clear hb
 go_wp2_with fail
 refine (HX.out _ HG3.out H3.out).mono ?_
 rintro e w4 (⟨k,n,s,u,A0,n0,m0,A1,n1,m1,A2,n2,m2,rfl,hr,hw⟩ | ⟨hF,nxF,hnF,rfl,dpF,hpF,hgF⟩)
 rotate_left
 ·exact ⟨rfl,.inr ⟨hF,nxF,hnF,rfl,dpF,hpF,grown_trans HG3.out hgF⟩⟩
 have H4:=Lib.hid hw.1
 have HE4:=Lib.hid (HE3.out.kept hw.2 (by simp;omega))
 have HG4:=Lib.hid (grown_trans HG3.out hw.2)
 have HR4:=Lib.hid ((hr.weaken (Q:=fun x=>w.heap.size < x) (fun x hx=>by omega)).tight)
 have hz4:w.heap.size < w4.heap.size:=HE4.out.lt
 clear hw hr HX
 go_wp2_with fail
 obtain ⟨W5,hW5⟩:∃ W5,w4.alloc (.cells #[.int .i64 k,.int .i64 n,.string s,.string u,.slice A0 n0 m0,.slice A1 n1 m1,.slice A2 n2 m2] 27)=W5:=⟨_,rfl⟩
 have hg5:w4.grownBy W5 none:=by rw [← hW5];exact World.grownBy_alloc _ _ _
 have HU5:Hid (EB W5 w4.heap.size (.int .i64 k) (.int .i64 n) (.string s) (.string u) (.slice A0 n0 m0) (.slice A1 n1 m1) (.slice A2 n2 m2)):=Lib.hid (by rw [← hW5];exact EB.new w4 _ _ _ _ _ _ _)
 have hz5:w4.heap.size < W5.heap.size:=by rw [← hW5];simp
 rw [hW5]
 have H5:=Lib.hid (H4.out.kept hg5 (by simp) (by simp))
 have HE5:=Lib.hid (HE4.out.kept hg5 (by simp))
 have HG5:=Lib.hid (grown_trans HG4.out (Below.grownBy' hg5))
 have HR5:=Lib.hid (HR4.out.keep (Same.of_grown hg5 (fun _ _=>by simp)))
 clear hW5 hg5
 refine (HN3.out _ H5.out).mono ?_
 rintro e w6 ⟨rfl,hw⟩
 have H6:=Lib.hid hw.1
 have HE6:=Lib.hid (HE5.out.kept hw.2 (by simp;omega))
 have HU6:=Lib.hid (HU5.out.kept hw.2 (by simp;omega))
 have HG6:=Lib.hid (grown_trans HG5.out hw.2)
 have HR6:=Lib.hid (HR5.out.keep (Same.of_grown hw.2 (fun x hx=>by have:=hx.1;simp;omega)))
 have hz6:w.heap.size < w6.heap.size:=HE6.out.lt
 have hz7:w4.heap.size < w6.heap.size:=HU6.out.lt
 have e0:=HE6.out.c0
 have r0:=HE6.out.fr 0
 have e1:=HE6.out.c1
 have r1:=HE6.out.fr 1
 have e2:=HE6.out.c2
 have r2:=HE6.out.fr 2
 have e3:=HE6.out.c3
 have r3:=HE6.out.fr 3
 have e4:=HE6.out.c4
 have r4:=HE6.out.fr 4
 have e5:=HE6.out.c5
 have r5:=HE6.out.fr 5
 have e6:=HE6.out.c6
 have r6:=HE6.out.fr 6
 have d0:=HU6.out.c0
 have d1:=HU6.out.c1
 have d2:=HU6.out.c2
 have d3:=HU6.out.c3
 have d4:=HU6.out.c4
 have d5:=HU6.out.c5
 have d6:=HU6.out.c6
 clear hw
 go_wp2_with fail
 exact bodyPost_retF (res_par rfl (HE6.out.all _ _ _ _ _ _ _)) rfl ⟨k,n,s,u,A0,n0,m0,A1,n1,m1,A2,n2,m2,rfl,(HR6.out.keep (Same.of_grown (set7_grown _ _ _ _ _ _ _ _ _) (fun x hx=>by have:=hx.1;simp;omega))).weaken (fun x hx=>by have:=hx.1;omega),H6.out.kept (set7_grown _ _ _ _ _ _ _ _ _) (by simp;omega) (by simp;omega),grown_7 HG6.out (Nat.le_refl _) _ _ _ _ _ _ _⟩
end Go.Proofs.YtpjabnemkmdobaaGreatDoor
