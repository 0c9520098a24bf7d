/- Texts put together by program: EbAA EbY EbAB EbAC EbAK EbAD EbAE. -/
import Derived.Test.YtpjabnemkmdobaaGreatDoorMgJ
import Derived.Test.YtpjabnemkmdobaaGreatDoorMgI
import Derived.Test.YtpjabnemkmdobaaGreatDoorMgH
namespace Go.Proofs.YtpjabnemkmdobaaGreatDoor
open Go.RowKit
theorem res_arm {tmps:Array Value}{w:World}{g:Nat}{v0 v1 v2 v3 v4 v5 v6 v7 v8:Value}(h2:tmps.getD 2 undef=.pointer (some ⟨g,0,none⟩))(h:AmB w g v0 v1 v2 v3 v4 v5 v6 v7 v8) :
  (results Tryz.f151 tmps).run Tryz.prog w=.ok (.agg #[v0,v1,v2,v3,v4,v5,v6,v7,v8]) w:=by
 have c0:=h.c0
 have c1:=h.c1
 have c2:=h.c2
 have c3:=h.c3
 have c4:=h.c4
 have c5:=h.c5
 have c6:=h.c6
 have c7:=h.c7
 have c8:=h.c8
 have h2':tmps[2]?.getD undef=.pointer (some ⟨g,0,none⟩):=by simpa using h2
 simp [results,Tryz.results151,go_sem,h2',c0,c1,c2,c3,c4,c5,c6,c7,c8]
theorem res_cl {tmps:Array Value}{w:World}{g:Nat}{v0 v1 v2 v3 v4 v5 v6 v7 v8:Value}(h2:tmps.getD 2 undef=.pointer (some ⟨g,0,none⟩))(h:AmB w g v0 v1 v2 v3 v4 v5 v6 v7 v8) :
  (results Tryz.f167 tmps).run Tryz.prog w=.ok (.agg #[v0,v1,v2,v3,v4,v5,v6,v7,v8]) w:=by
 have c0:=h.c0
 have c1:=h.c1
 have c2:=h.c2
 have c3:=h.c3
 have c4:=h.c4
 have c5:=h.c5
 have c6:=h.c6
 have c7:=h.c7
 have c8:=h.c8
 have h2':tmps[2]?.getD undef=.pointer (some ⟨g,0,none⟩):=by simpa using h2
 simp [results,Tryz.results167,go_sem,h2',c0,c1,c2,c3,c4,c5,c6,c7,c8]
set_option maxRecDepth 100000 in
set_option maxHeartbeats 2000000 in
theorem pArm_any {F:Prop}(b g go c:Nat)(ts:List Rt)(nx nx2 dp:Nat)(t:Rt)(ns:List (List UInt8))(e0:Ex)(w:World)(h:PS w b g go c ts nx dp)(ht:ts[nx]?=some t)(hk:t.k=2)(hlen:ts.length≤100000)
  (HA:Hid (∀ w',w.grownBy w' (some b)→PS w' b g go c ts (nx+1) dp→Calls Tryz.prog 159 #[.pointer (some ⟨b,0,none⟩),.string (strB t.s)] w' (OF F w' b g go c ts (ArmTo w' b g go c ts nx2 dp t.s ns e0)))) :
  Calls Tryz.prog 151 #[.pointer (some ⟨b,0,none⟩)] w (OF F w b g go c ts (ArmTo w b g go c ts nx2 dp t.s ns e0)):=by
 have HU:=Lib.hid (fun w h=>upper_ok b g go c ts nx dp t w h ht hk hlen)
 have H:=Lib.hid h
 have hbl:=h.blt
 have hgl:=h.lt
 obtain ⟨S,hS⟩:∃ S,S=strB t.s:=⟨_,rfl⟩
 rw [← hS] at HU HA
 have HSe:=Lib.hid hS
 clear h ht hk hlen hS
 go_enter Tryz.func151,Tryz.ntmps151
 go_wp2_with fail
 have H0:=Lib.hid (H.out.below ((Below.refl w.heap.size w).alloc (Nat.le_refl _) (.cells #[.string ⟨#[]⟩,.slice none 0 0,.int .i64 0,.int .i64 0,.string ⟨#[]⟩,.string ⟨#[]⟩,.slice none 0 0,.slice none 0 0,.slice none 0 0] 57)))
 have HE0:=Lib.hid (AmB.new w (.string ⟨#[]⟩) (.slice none 0 0) (.int .i64 0) (.int .i64 0) (.string ⟨#[]⟩) (.string ⟨#[]⟩) (.slice none 0 0) (.slice none 0 0) (.slice none 0 0))
 have HG0:=Lib.hid (World.grownBy_alloc w (.cells #[.string ⟨#[]⟩,.slice none 0 0,.int .i64 0,.int .i64 0,.string ⟨#[]⟩,.string ⟨#[]⟩,.slice none 0 0,.slice none 0 0,.slice none 0 0] 57) (some b))
 refine (HU.out _ H0.out).mono ?_
 rintro e w1 ⟨rfl,hw⟩
 have H1:=Lib.hid hw.1
 have HE1:=Lib.hid (HE0.out.kept hw.2 (by simp;omega))
 have HG1:=Lib.hid (grown_trans HG0.out hw.2)
 have hz1:w.heap.size < w1.heap.size:=HE1.out.lt
 clear hw
 go_wp2_with fail
 refine (HA.out _ HG1.out H1.out).mono ?_
 rintro e w3 (⟨An,cn,k,n,s,u,A0,n0,m0,A1,n1,m1,A2,n2,m2,rfl,hnm,hcn,hr,hw⟩ | ⟨hF,nxF,hnF,rfl,dpF,hpF,hgF⟩)
 rotate_left
 ·exact ⟨rfl,.inr ⟨hF,nxF,hnF,rfl,dpF,hpF,grown_trans HG1.out hgF⟩⟩
 obtain ⟨NL,hNL⟩:∃ NL,NL=ns.length:=⟨_,rfl⟩
 rw [← hNL,← HSe.out]
 have HNL:=Lib.hid hNL
 have H3:=Lib.hid hw.1
 have HE3:=Lib.hid (HE1.out.kept hw.2 (by simp;omega))
 have HG3:=Lib.hid (grown_trans HG1.out hw.2)
 have HN3:=Lib.hid (hnm.weaken (Q:=fun x=>w.heap.size < x) (fun x hx=>by omega))
 have HCn:=Lib.hid hcn
 have HR3:=Lib.hid (hr.weaken (Q:=fun x=>w.heap.size < x) (fun x hx=>by omega))
 have hz3:w.heap.size < w3.heap.size:=HE3.out.lt
 have ee0:=HE3.out.c0
 have r0:=HE3.out.fr 0
 have ee1:=HE3.out.c1
 have r1:=HE3.out.fr 1
 have ee2:=HE3.out.c2
 have r2:=HE3.out.fr 2
 have ee3:=HE3.out.c3
 have r3:=HE3.out.fr 3
 have ee4:=HE3.out.c4
 have r4:=HE3.out.fr 4
 have ee5:=HE3.out.c5
 have r5:=HE3.out.fr 5
 have ee6:=HE3.out.c6
 have r6:=HE3.out.fr 6
 have ee7:=HE3.out.c7
 have r7:=HE3.out.fr 7
 have ee8:=HE3.out.c8
 have r8:=HE3.out.fr 8
 clear hw hr hnm hcn HA hNL
 go_wp2_with fail
 exact bodyPost_retF (res_arm rfl (HE3.out.all (.string S) (.slice An NL cn) (.int .i64 k) (.int .i64 n) (.string s) (.string u) (.slice A0 n0 m0) (.slice A1 n1 m1) (.slice A2 n2 m2))) rfl ⟨An,cn,k,n,s,u,A0,n0,m0,A1,n1,m1,A2,n2,m2,by rw [HSe.out,HNL.out],
  (HN3.out.keep (Same.of_grown (set9_grown _ _ _ _ _ _ _ _ _ _ _) (fun x hx=>by simp;omega))).weaken (fun x hx=>by omega),HCn.out,
  (HR3.out.keep (Same.of_grown (set9_grown _ _ _ _ _ _ _ _ _ _ _) (fun x hx=>by simp;omega))).weaken (fun x hx=>by omega),
  H3.out.kept (set9_grown _ _ _ _ _ _ _ _ _ _ _) (by simp;omega) (by simp;omega),grown_9 HG3.out (Nat.le_refl _) _ _ _ _ _ _ _ _ _⟩
set_option maxRecDepth 100000 in
set_option maxHeartbeats 2000000 in
theorem cl_next {F:Prop}(b g go c fb xp:Nat)(ts:List Rt)(nx nx2 dp:Nat)(t:Rt)(ns:List (List UInt8))(e0:Ex)(w:World)(h:PS w b g go c ts nx dp)(hbx:BxB w fb false)(hx:BoxP w xp b)(ht:ts[nx]?=some t)(hk:t.k=0)(hlen:ts.length≤100000)
  (HA:Hid (∀ w',w.grownBy w' (some b)→PS w' b g go c ts (nx+1) dp→Calls Tryz.prog 159 #[.pointer (some ⟨b,0,none⟩),.string (strB t.s)] w' (OF F w' b g go c ts (ArmTo w' b g go c ts nx2 dp t.s ns e0)))) :
  Calls Tryz.prog 167 #[.pointer (some ⟨fb,0,none⟩),.pointer (some ⟨xp,0,none⟩)] w (OF F w b g go c ts (ArmTo w b g go c ts nx2 dp t.s ns e0)):=by
 have HU:=Lib.hid (fun w h=>lower_ok b g go c ts nx dp t w h ht hk hlen)
 have H:=Lib.hid h
 have hbl:=h.blt
 have hgl:=h.lt
 have f0:=hbx.c
 have fl:=hbx.lt
 have HBo:=Lib.hid hx
 have hxb:=hx.ne h
 obtain ⟨S,hS⟩:∃ S,S=strB t.s:=⟨_,rfl⟩
 rw [← hS] at HU HA
 have HSe:=Lib.hid hS
 clear h ht hk hlen hS hbx hx
 go_enter Tryz.func167,Tryz.ntmps167
 go_wp2_with fail
 obtain ⟨W0,hW0⟩:∃ W0,w.alloc (.cells #[.string ⟨#[]⟩,.slice none 0 0,.int .i64 0,.int .i64 0,.string ⟨#[]⟩,.string ⟨#[]⟩,.slice none 0 0,.slice none 0 0,.slice none 0 0] 57)=W0:=⟨_,rfl⟩
 have HG0:Hid (w.grownBy W0.drew none):=Lib.hid (by rw [← hW0];exact grown_trans (World.grownBy_alloc _ _ _) (grown_drewN _ 1 none))
 have HE0:Hid (AmB W0.drew w.heap.size (.string ⟨#[]⟩) (.slice none 0 0) (.int .i64 0) (.int .i64 0) (.string ⟨#[]⟩) (.string ⟨#[]⟩) (.slice none 0 0) (.slice none 0 0) (.slice none 0 0)):=Lib.hid (by rw [← hW0];exact (AmB.new w (.string ⟨#[]⟩) (.slice none 0 0) (.int .i64 0) (.int .i64 0) (.string ⟨#[]⟩) (.string ⟨#[]⟩) (.slice none 0 0) (.slice none 0 0) (.slice none 0 0)).kept (grown_drewN _ 1 none) (by simp))
 rw [hW0]
 clear hW0
 have H0:=Lib.hid (H.out.kept HG0.out (by simp) (by simp))
 have HB0:=Lib.hid (HBo.out.kept HG0.out (by simp))
 refine wp_region_held_drew (S:=fun w'=>w'.cell? ⟨xp,0,none⟩=some (.pointer (some ⟨b,0,none⟩))) (by kernel_rfl) HB0.out.c (fun hHeld=>?_)
 refine takeG (i:=0) (d:=5) (v:=(.pointer (some ⟨b,0,none⟩))) rfl rfl (by kernel_rfl) (by kernel_rfl) (by kernel_rfl) (fun _ _ _ h=>h) (Or.inl ⟨by kernel_rfl,fun w hSw=>(by (try dsimp only at hSw);go_simp)⟩) hHeld ?_
 refine takeG (i:=1) (d:=6) (v:=(.pointer (some ⟨b,0,none⟩))) rfl rfl (by kernel_rfl) (by kernel_rfl) (by kernel_rfl) (fun _ _ _ h=>h) (Or.inl ⟨by kernel_rfl,fun w hSw=>(by (try dsimp only at hSw);go_simp)⟩) hHeld ?_
 refine takeG (i:=2) (d:=7) (v:=(.pointer (some ⟨b,0,none⟩))) rfl rfl (by kernel_rfl) (by kernel_rfl) (by kernel_rfl) (fun _ _ _ h=>h) (Or.inl ⟨by kernel_rfl,fun w hSw=>(by (try dsimp only at hSw);go_simp)⟩) hHeld ?_
 refine takeG (i:=3) (d:=8) (v:=(.pointer (some ⟨b,0,none⟩))) rfl rfl (by kernel_rfl) (by kernel_rfl) (by kernel_rfl) (fun _ _ _ h=>h) (Or.inl ⟨by kernel_rfl,fun w hSw=>(by (try dsimp only at hSw);go_simp)⟩) hHeld ?_
 simp only [List.setIfInBounds_toArray,List.set_cons_succ,List.set_cons_zero]
 refine stepG (i:=4) (by kernel_rfl) rfl (by kernel_rfl) (fun K hK=>?_)
 go_simp
 refine (HU.out _ H0.out).mono ?_
 rintro e w1 ⟨rfl,hw⟩
 have H1:=Lib.hid hw.1
 have HE1:=Lib.hid (HE0.out.kept hw.2 (by simp;omega))
 have HG1:Hid (w.grownBy w1 (some b)):=Lib.hid (grown_trans (Below.grownBy' HG0.out) hw.2)
 have HB1:=Lib.hid (HB0.out.kept hw.2 (by simp;omega))
 have hz1:w.heap.size < w1.heap.size:=HE1.out.lt
 clear hw
 refine hK.out _ _ HB1.out.c ?_
 clear hK K
 refine stepG (i:=5) (by kernel_rfl) rfl (by kernel_rfl) (fun K hK=>?_)
 go_simp
 refine (HA.out _ HG1.out H1.out).mono ?_
 rintro e w3 (⟨An,cn,k,n,s,u,A0,n0,m0,A1,n1,m1,A2,n2,m2,rfl,hnm,hcn,hr,hw⟩ | ⟨hF,nxF,hnF,rfl,dpF,hpF,hgF⟩)
 rotate_left
 ·exact ⟨rfl,.inr ⟨hF,nxF,hnF,rfl,dpF,hpF,grown_trans HG1.out hgF⟩⟩
 obtain ⟨NL,hNL⟩:∃ NL,NL=ns.length:=⟨_,rfl⟩
 rw [← hNL,← HSe.out]
 have HNL:=Lib.hid hNL
 have H3:=Lib.hid hw.1
 have HE3:=Lib.hid (HE1.out.kept hw.2 (by simp;omega))
 have HG3:=Lib.hid (grown_trans HG1.out hw.2)
 have HN3:=Lib.hid (hnm.weaken (Q:=fun x=>w.heap.size < x) (fun x hx=>by omega))
 have HCn:=Lib.hid hcn
 have HR3:=Lib.hid (hr.weaken (Q:=fun x=>w.heap.size < x) (fun x hx=>by omega))
 have hz3:w.heap.size < w3.heap.size:=HE3.out.lt
 have ee0:=HE3.out.c0
 have r0:=HE3.out.fr 0
 have ee1:=HE3.out.c1
 have r1:=HE3.out.fr 1
 have ee2:=HE3.out.c2
 have r2:=HE3.out.fr 2
 have ee3:=HE3.out.c3
 have r3:=HE3.out.fr 3
 have ee4:=HE3.out.c4
 have r4:=HE3.out.fr 4
 have ee5:=HE3.out.c5
 have r5:=HE3.out.fr 5
 have ee6:=HE3.out.c6
 have r6:=HE3.out.fr 6
 have ee7:=HE3.out.c7
 have r7:=HE3.out.fr 7
 have ee8:=HE3.out.c8
 have r8:=HE3.out.fr 8
 have HB3:=Lib.hid (HB1.out.kept hw.2 (by simp;omega))
 refine hK.out _ _ HB3.out.c ?_
 clear hK K hw hr hnm hcn HA hNL
 refine stepG (i:=6) (by kernel_rfl) rfl (by kernel_rfl) (fun K hK=>?_)
 go_simp
 show K _ (set9 w3 w.heap.size (.string S) (.slice An NL cn) (.int .i64 k) (.int .i64 n) (.string s) (.string u) (.slice A0 n0 m0) (.slice A1 n1 m1) (.slice A2 n2 m2))
 refine hK.out _ _ (HB3.out.kept (set9_grown _ _ _ _ _ _ _ _ _ _ _) (by simp;have:=HBo.out.lt;omega)).c ?_
 clear hK K hHeld
 refine wpAnyH_done (by kernel_rfl) ?_ _
 go_wp2_with fail
 exact bodyPost_retF (res_cl rfl (HE3.out.all (.string S) (.slice An NL cn) (.int .i64 k) (.int .i64 n) (.string s) (.string u) (.slice A0 n0 m0) (.slice A1 n1 m1) (.slice A2 n2 m2))) rfl ⟨An,cn,k,n,s,u,A0,n0,m0,A1,n1,m1,A2,n2,m2,by rw [HSe.out,HNL.out],
  (HN3.out.keep (Same.of_grown (set9_grown _ _ _ _ _ _ _ _ _ _ _) (fun x hx=>by simp;omega))).weaken (fun x hx=>by omega),HCn.out,
  (HR3.out.keep (Same.of_grown (set9_grown _ _ _ _ _ _ _ _ _ _ _) (fun x hx=>by simp;omega))).weaken (fun x hx=>by omega),
  H3.out.kept (set9_grown _ _ _ _ _ _ _ _ _ _ _) (by simp;omega) (by simp;omega),grown_9 HG3.out (Nat.le_refl _) _ _ _ _ _ _ _ _ _⟩
abbrev retT:List UInt8:=[114,101,116,117,114,110]
theorem grown_set_alloc (w:World)(fb:Nat)(v:Value)(o:Obj)(_:fb < w.heap.size):(w.setCell ⟨fb,0,none⟩ v).grownBy ((w.alloc o).setCell ⟨fb,0,none⟩ v) none:=by
 refine ⟨rfl,rfl,rfl,by simp [World.setCell],fun k hk _=>?_⟩
 have hk':k < w.heap.size:=by simpa [World.setCell] using hk
 have h1:(w.alloc o).heap[k]?=w.heap[k]?:=(World.grownBy_alloc w o none).block k hk' (by simp)
 simp [World.setCell,Array.getElem?_modify,h1]
set_option maxRecDepth 100000 in
set_option maxHeartbeats 2000000 in
theorem cl_first {F:Prop}(b g go c fb xp:Nat)(ts:List Rt)(nx nx2 dp:Nat)(t:Rt)(ns:List (List UInt8))(e0:Ex)(wb w:World)(h:PS w b g go c ts nx dp)(hgb:wb.grownBy w (some b))(hfb:wb.heap.size≤fb∧fb≠b∧fb≠g∧fb≠xp)(hbx:BxB w fb true)(hx:BoxP w xp b)(ht:ts[nx]?=some t)(hs:t.s=retT)(hlen:ts.length≤100000)
  (HA:Hid (∀ w',wb.grownBy w' (some b)→PS w' b g go c ts (nx+1) dp→Calls Tryz.prog 159 #[.pointer (some ⟨b,0,none⟩),.string ⟨#[114,101,116,117,114,110]⟩] w' (OF F w' b g go c ts (ArmTo w' b g go c ts nx2 dp retT ns e0)))) :
  Calls Tryz.prog 167 #[.pointer (some ⟨fb,0,none⟩),.pointer (some ⟨xp,0,none⟩)] w (OF F wb b g go c ts fun e w2=>∃ wm,w.grownBy wm (some fb)∧BxB wm fb false∧ArmTo wm b g go c ts nx2 dp retT ns e0 e w2):=by
 have HN:=Lib.hid (fun w h=>need_ok b g go c ts nx dp t ⟨#[114,101,116,117,114,110]⟩ w h ht hs hlen)
 have H:=Lib.hid h
 have hbl:=h.blt
 have hgl:=h.lt
 have f0:=hbx.c
 have f1:=hbx.fr 0
 have fl:=hbx.lt
 have hxb:=hx.ne h
 obtain ⟨z0,z1,z2,z3⟩:=hfb
 have HGb:=Lib.hid hgb
 have hbw:=hgb.size
 obtain ⟨W1,hW1⟩:∃ W1,(w.alloc (.cells #[.string ⟨#[]⟩,.slice none 0 0,.int .i64 0,.int .i64 0,.string ⟨#[]⟩,.string ⟨#[]⟩,.slice none 0 0,.slice none 0 0,.slice none 0 0] 57)).setCell ⟨fb,0,none⟩ (.bool false)=W1:=⟨_,rfl⟩
 obtain ⟨wm,hwm⟩:∃ wm,w.setCell ⟨fb,0,none⟩ (.bool false)=wm:=⟨_,rfl⟩
 have HGm:Hid (wm.grownBy W1 none):=Lib.hid (by rw [← hW1,← hwm];exact grown_set_alloc _ _ _ _ fl)
 have HGwm:Hid (w.grownBy wm (some fb)):=Lib.hid (by rw [← hwm];exact grown_set w ⟨fb,0,none⟩ _)
 have hzm:wm.heap.size=w.heap.size:=by rw [← hwm];simp [World.setCell]
 have HBm:Hid (BxB wm fb false):=Lib.hid (by rw [← hwm];exact hbx.set false)
 have hg0:w.grownBy W1 (some fb):=by rw [← hW1];exact grown_trans (World.grownBy_alloc _ _ _) (grown_set _ ⟨fb,0,none⟩ _)
 have HG1b:Hid (wb.grownBy W1 (some b)):=Lib.hid (by rw [← hW1];exact grown_new (grown_trans hgb (World.grownBy_alloc _ _ _)) z0 _)
 have HE1:Hid (AmB W1 w.heap.size (.string ⟨#[]⟩) (.slice none 0 0) (.int .i64 0) (.int .i64 0) (.string ⟨#[]⟩) (.string ⟨#[]⟩) (.slice none 0 0) (.slice none 0 0) (.slice none 0 0)):=Lib.hid (by rw [← hW1];exact (AmB.new w (.string ⟨#[]⟩) (.slice none 0 0) (.int .i64 0) (.int .i64 0) (.string ⟨#[]⟩) (.string ⟨#[]⟩) (.slice none 0 0) (.slice none 0 0) (.slice none 0 0)).kept (grown_set _ ⟨fb,0,none⟩ _) (by simp;omega))
 have H1:=Lib.hid (h.kept hg0 (by simp;omega) (by simp;omega))
 have HX1:=Lib.hid (hx.kept hg0 (by simp;omega))
 have x1:=HX1.out.c
 have hz1:W1.heap.size=w.heap.size+1:=by rw [← hW1];simp [World.setCell]
 clear h ht hs hlen hbx hx hgb hg0 hwm
 go_enter Tryz.func167,Tryz.ntmps167
 go_wp2_with fail
 clear hW1
 refine (HN.out _ H1.out).mono ?_
 rintro e w2 ⟨rfl,hw⟩
 have H2:=Lib.hid hw.1
 have HE2:=Lib.hid (HE1.out.kept hw.2 (by simp;omega))
 have HG2b:=Lib.hid (grown_trans HG1b.out hw.2)
 have HG2m:Hid (wm.grownBy w2 (some b)):=Lib.hid (grown_trans (Below.grownBy' HGm.out) hw.2)
 have HX2:=Lib.hid (HX1.out.kept hw.2 (by simp;omega))
 have x2:=HX2.out.c
 have hz2:W1.heap.size≤w2.heap.size:=hw.2.size
 clear hw x1 f0 f1
 go_wp2_with fail
 refine (HA.out _ HG2b.out H2.out).mono ?_
 rintro e w3 (⟨An,cn,k,n,s,u,A0,n0,m0,A1,n1,m1,A2,n2,m2,rfl,hnm,hcn,hr,hw⟩ | ⟨hF,nxF,hnF,rfl,dpF,hpF,hgF⟩)
 rotate_left
 ·exact ⟨rfl,.inr ⟨hF,nxF,hnF,rfl,dpF,hpF,grown_trans HG2b.out hgF⟩⟩
 obtain ⟨NL,hNL⟩:∃ NL,NL=ns.length:=⟨_,rfl⟩
 rw [← hNL]
 have HNL:=Lib.hid hNL
 obtain ⟨S,hS⟩:∃ S,S=strB retT:=⟨_,rfl⟩
 rw [← hS]
 have HSe:=Lib.hid hS
 have H3:=Lib.hid hw.1
 have HE3:=Lib.hid (HE2.out.kept hw.2 (by simp;omega))
 have HG3m:Hid (wm.grownBy w3 (some b)):=Lib.hid (grown_trans HG2m.out hw.2)
 have HN3:=Lib.hid (hnm.weaken (Q:=fun x=>w.heap.size < x) (fun x hx=>by omega))
 have HCn:=Lib.hid hcn
 have HR3:=Lib.hid (hr.weaken (Q:=fun x=>w.heap.size < x) (fun x hx=>by omega))
 have hz3:w.heap.size < w3.heap.size:=HE3.out.lt
 have ee0:=HE3.out.c0
 have r0:=HE3.out.fr 0
 have ee1:=HE3.out.c1
 have r1:=HE3.out.fr 1
 have ee2:=HE3.out.c2
 have r2:=HE3.out.fr 2
 have ee3:=HE3.out.c3
 have r3:=HE3.out.fr 3
 have ee4:=HE3.out.c4
 have r4:=HE3.out.fr 4
 have ee5:=HE3.out.c5
 have r5:=HE3.out.fr 5
 have ee6:=HE3.out.c6
 have r6:=HE3.out.fr 6
 have ee7:=HE3.out.c7
 have r7:=HE3.out.fr 7
 have ee8:=HE3.out.c8
 have r8:=HE3.out.fr 8
 clear hw hr hnm hcn HA hNL hS x2
 go_wp2_with fail
 exact bodyPost_retF (res_cl rfl (HE3.out.all (.string S) (.slice An NL cn) (.int .i64 k) (.int .i64 n) (.string s) (.string u) (.slice A0 n0 m0) (.slice A1 n1 m1) (.slice A2 n2 m2))) rfl ⟨wm,HGwm.out,HBm.out,An,cn,k,n,s,u,A0,n0,m0,A1,n1,m1,A2,n2,m2,by rw [HSe.out,HNL.out],
  (HN3.out.keep (Same.of_grown (set9_grown _ _ _ _ _ _ _ _ _ _ _) (fun x hx=>by simp;omega))).weaken (fun x hx=>by omega),HCn.out,
  (HR3.out.keep (Same.of_grown (set9_grown _ _ _ _ _ _ _ _ _ _ _) (fun x hx=>by simp;omega))).weaken (fun x hx=>by omega),
  H3.out.kept (set9_grown _ _ _ _ _ _ _ _ _ _ _) (by simp;omega) (by simp;omega),grown_9 HG3m.out (by omega) _ _ _ _ _ _ _ _ _⟩
set_option maxRecDepth 100000 in
set_option maxHeartbeats 4000000 in
theorem sepA_arm {F:Prop}(b g go c z:Nat)(ts:List Rt)(nx dp:Nat)(L:List Am)(hd:Nat→Nat)(w:World)(h:PS w b g go c ts nx dp)(hz:NamesAt (fun x=>x≠b) w (some ⟨z,0,none⟩) [[125]])(h0:hd 0=nx)(hL:L.length≤100000)(hlen:ts.length≤100000)(hok:∀ x∈L,okS x.1.1∧∀ y∈x.1.2,okS y)
  (hread:∀ (kk:Nat) (x:Am),L[kk]?=some x→∀ w',w.grownBy w' (some b)→PS w' b g go c ts (if kk=0 then nx else hd kk+1) dp→Calls Tryz.prog 151 #[.pointer (some ⟨b,0,none⟩)] w' (OF F w' b g go c ts (ArmTo w' b g go c ts (hd (kk+1)) dp x.1.1 x.1.2 x.2)))
  (hcomma:∀ kk,0 < kk→kk < L.length→∃ t,ts[hd kk]?=some t∧t.s=[59])
  (hfirst:0 < L.length→∃ t,ts[nx]?=some t∧t.s≠[125])
  (hend:∃ t,ts[hd L.length]?=some t∧t.s=[125]) :
  Calls Tryz.prog 158 #[.pointer (some ⟨b,0,none⟩),.string ⟨#[59]⟩,.func (.func 151) #[.pointer (some ⟨b,0,none⟩)] #[],.slice (some ⟨z,0,none⟩) 1 1] w (OF F w b g go c ts (ArmsTo w b g go c ts (hd L.length) dp L)):=by
 obtain ⟨i0,hi,hz0,hz1,hz2⟩:=info_parts infoAm
 have H:=Lib.hid h
 have hbl:=h.blt
 have hgl:=h.lt
 have HE:=Lib.hid hz
 have HL:=Lib.hid hread
 have HC:=Lib.hid hcomma
 have HF:=Lib.hid hfirst
 have HD:=Lib.hid hend
 have HOk:=Lib.hid hok
 obtain ⟨n,hn⟩:∃ n,n=L.length:=⟨_,rfl⟩
 have HN:=Lib.hid hn
 have hn2:n≤100000:=by omega
 have H0:=Lib.hid h0
 rw [← hn] at HC HF HD
 clear h hz hread hcomma hfirst hend hn hL h0 hok
 go_enter Tryz.func158,Tryz.ntmps158
 go_wp2_with fail
 go_step3
 go_wp2_with fail
 go_step3
 go_wp2_with fail
 go_loopw [8,9] (fun v f wr=>∃ (kk:Nat) (A':Option Addr) (c':Nat) (cl:List (List Value)),kk≤n∧((kk=0∧f=.bool true)∨(0 < kk∧f=.bool false))∧v=.slice A' kk c'∧Hid (wr.ownsRow w.heap.size 57 9 (.slice A' kk c') kk cl.flatten)∧Hid (CellsA (fun x=>w.heap.size≤x∧some x≠(Value.slice A' kk c').ownBlock) wr (L.take kk) cl)∧Hid (PS wr b g go c ts (hd kk) dp)∧Hid (w.grownBy wr (some b))) (fun v _ _=>n - slLen2 v)
 case atStart=>exact ⟨0,none,0,[],Nat.zero_le _,.inl ⟨rfl,rfl⟩,rfl,Lib.hid (World.ownsRow_nil _ _ _ _),Lib.hid ⟨by simp,fun j e c h1 h2=>by simp at h2⟩,by rw [H0.out];exact H,Lib.hid ⟨rfl,rfl,rfl,Nat.le_refl _,fun _ _ _=>rfl⟩⟩
 case round =>
  obtain ⟨kk,A',c',cl,hkk,hf,rfl,hO,hC,hP,hG⟩:=hrel
  have HEr:=Lib.hid (HE.out.keep (Same.of_grown hG.out (fun x hx=>by simpa using hx)))
  have hzr:w.heap.size≤wr.heap.size:=hG.out.size
  rcases hf with ⟨h0,rfl⟩ | ⟨h0,rfl⟩
  ·subst h0
   by_cases hn0:n=0
   ·obtain ⟨t,ht,hts⟩:=HD.out
    rw [hn0] at ht
    have HPk:=Lib.hid (peek_any b g go c ts (hd 0) dp t wr hP.out ht)
    obtain ⟨S,hS⟩:∃ S,S=strB t.s:=⟨_,rfl⟩
    have HCt:Hid (∀ w',Below wr.heap.size wr w'→Calls Tryz.prog 115 #[.slice (some ⟨z,0,none⟩) 1 1,.string S] w' fun e w''=>e=.returned (.bool true)∧w'=w''):=Lib.hid (fun w' hb=>by
     have:=contains_any (fun x=>x≠b) (some ⟨z,0,none⟩) 1 [[125]] t.s w' (HEr.out.keep (Same.of_below hb)) (by unfold maxLen;simp)
     rw [show ([[125]]:List (List UInt8)).contains t.s=true by rw [hts];rfl,← hS] at this
     exact this)
    rw [← hS] at HPk
    have fl1:=tfield1
    clear hS hts ht
    go_wp2_with fail
    refine HPk.out.mono ?_
    rintro e w1 ⟨rfl,hb⟩
    have HB:=Lib.hid hb
    have HP1:=Lib.hid (hP.out.below hb)
    have HO1:=Lib.hid (hO.out.kept (grown_below hb none) (by cases (Value.slice A' 0 c').ownBlock <;> simp))
    have HC1:=Lib.hid (hC.out.keep (Same.of_below hb))
    have HG1:=Lib.hid (grown_trans hG.out (grown_below hb _))
    have hzw1:w.heap.size≤w1.heap.size:=Nat.le_trans hzr hb.size
    clear hb
    go_wp2_with fail
    refine (HCt.out _ HB.out).mono ?_
    rintro e w3 ⟨rfl,rfl⟩
    go_wp2_with fail
    subst hn0
    rw [Exit.noGoto_ret]
    go_ret
    refine .inl ?_
    have hcl:=HC1.out.weaken (Q:=fun x=>w.heap.size≤x) (fun x hx=>hx.1)
    rw [List.take_of_length_le (by rw [← HN.out];exact Nat.le_refl _)] at hcl
    obtain ⟨l1,l2,l3⟩:=hcl.list HN.out HO1.out
    exact ⟨A',c',by rw [← HN.out];rfl,fun hne=>by obtain ⟨y,off,e1,e2,e3,e4⟩:=l1 hne;exact ⟨y,off,e1,e2,e3,e4⟩,by rw [← HN.out];exact ⟨l2,l3⟩,by rw [← HN.out];exact ⟨HP1.out,HG1.out⟩⟩
   ·have hn1:0 < n:=Nat.pos_of_ne_zero hn0
    obtain ⟨t,ht,hts⟩:=HF.out hn1
    rw [← H0.out] at ht
    obtain ⟨x,hx⟩:∃ x,x=L[0]'(by rw [← HN.out];exact hn1):=⟨_,rfl⟩
    have HX:Hid (L[0]?=some x):=Lib.hid (by rw [hx];exact List.getElem?_eq_getElem _)
    clear hx
    have HPk:=Lib.hid (peek_any b g go c ts (hd 0) dp t wr hP.out ht)
    obtain ⟨S,hS⟩:∃ S,S=strB t.s:=⟨_,rfl⟩
    have HCt:Hid (∀ w',Below wr.heap.size wr w'→Calls Tryz.prog 115 #[.slice (some ⟨z,0,none⟩) 1 1,.string S] w' fun e w''=>e=.returned (.bool false)∧w'=w''):=Lib.hid (fun w' hb=>by
     have:=contains_any (fun x=>x≠b) (some ⟨z,0,none⟩) 1 [[125]] t.s w' (HEr.out.keep (Same.of_below hb)) (by unfold maxLen;simp)
     rw [show ([[125]]:List (List UInt8)).contains t.s=false by simp [hts],← hS] at this
     exact this)
    rw [← hS] at HPk
    have fl1:=tfield1
    clear hS hts ht
    go_wp2_with fail
    refine HPk.out.mono ?_
    rintro e w1 ⟨rfl,hb⟩
    have HB:=Lib.hid hb
    have HP1:=Lib.hid (hP.out.below hb)
    have HO1:=Lib.hid (hO.out.kept (grown_below hb none) (by cases (Value.slice A' 0 c').ownBlock <;> simp))
    have HC1:=Lib.hid (hC.out.keep (Same.of_below hb))
    have HG1:=Lib.hid (grown_trans hG.out (grown_below hb _))
    have hzw1:w.heap.size≤w1.heap.size:=Nat.le_trans hzr hb.size
    clear hb
    go_wp2_with fail
    refine (HCt.out _ HB.out).mono ?_
    rintro e w3 ⟨rfl,rfl⟩
    go_wp2_with fail
    have HLb:=Lib.hid (HL.out _ x HX.out)
    rw [if_pos rfl,← H0.out] at HLb
    refine (HLb.out _ HG1.out HP1.out).mono ?_
    rintro e w2 (⟨An,cn,k,m,s,u,A0,n0,m0,A1,n1,m1,A2,n2,m2,rfl,hnm,hcn,hr,hw⟩ | ⟨hF,nxF,hnF,rfl,dpF,hpF,hgF⟩)
    rotate_left
    ·exact ⟨rfl,.inr ⟨hF,nxF,hnF,rfl,dpF,hpF,grown_trans HG1.out hgF⟩⟩
    obtain ⟨wm,hwe⟩:∃ wm,wm=w1:=⟨_,rfl⟩
    rw [← hwe] at hnm hr hw HO1 HC1 HG1 hzw1
    have hwm:w.heap.size≤wm.heap.size:=hzw1
    have HOm:=HO1
    have HCm:=HC1
    have HGm:=HG1
    clear hwe
    have HP2:=Lib.hid hw.1
    have HO2:=Lib.hid (HOm.out.kept hw.2 (own_apart2 HOm.out hbl))
    have HC2:=Lib.hid ((HCm.out.keep (Same.of_grown hw.2 (fun x hx=>by have:=hx.1;simp;omega))).tight)
    have HG2:=Lib.hid (grown_trans HGm.out hw.2)
    have HW2:=Lib.hid hw.2
    obtain ⟨⟨op,ns⟩,ex⟩:=x
    obtain ⟨NL,hNL⟩:∃ NL,NL=ns.length:=⟨_,rfl⟩
    obtain ⟨OP,hOP⟩:∃ OP,OP=strB op:=⟨_,rfl⟩
    have hokx:=HOk.out _ (List.mem_of_getElem? HX.out)
    have hres:∀ y,wm.heap.size≤y→w.heap.size≤y∧some y≠(Value.slice A' 0 c').ownBlock:=fun y hy=>⟨by have:=hwm;omega,fun e=>by have:=(HOm.out.lt _ e.symm).2;omega⟩
    have HR2:Hid (ArmC (fun x=>(w.heap.size≤x∧some x≠(Value.slice A' 0 c').ownBlock)∧x < w2.heap.size) w2 ((op,ns),ex) [.string OP,.slice An NL cn,.int .i64 k,.int .i64 m,.string s,.string u,.slice A0 n0 m0,.slice A1 n1 m1,.slice A2 n2 m2]):=Lib.hid (ArmC.weaken (ArmC.tight (P:=fun x=>wm.heap.size≤x) ⟨An,cn,[.int .i64 k,.int .i64 m,.string s,.string u,.slice A0 n0 m0,.slice A1 n1 m1,.slice A2 n2 m2],⟨hokx.1,hokx.2,hcn.1,hcn.2⟩,rfl,by rw [hOP,hNL],hnm,hr⟩) (fun y hy=>⟨hres y hy.1,hy.2⟩))
    rw [← hOP,← hNL]
    have hzw2:=HW2.out.size
    clear hr hw HLb hokx hnm hcn hres hNL hOP
    go_wp2_with (at_builtin;refine wpList_append_own_at _ rfl _ _ 25 rfl w.heap.size 57 i0 (.agg #[.string ⟨#[]⟩,.slice none 0 0,.int .i64 0,.int .i64 0,.string ⟨#[]⟩,.string ⟨#[]⟩,.slice none 0 0,.slice none 0 0,.slice none 0 0]) 9 160 Tryz.underlying25 hi hz0 hz1 hz2 rfl (by decide) _ _ _ rfl ((HO2.out.alloc _).alloc _) ⟨w2.heap.size+1,0,none⟩ 1 1 [.string OP,.slice An NL cn,.int .i64 k,.int .i64 m,.string s,.string u,.slice A0 n0 m0,.slice A1 n1 m1,.slice A2 n2 m2] rfl rfl (cell_am2 w2 _ _ _ _ _ _ _ _ _) (am_one _ _ _ _ _ _ _ _ _ _ _ _ _ _ _ _ _) (by unfold maxLen;omega) (by omega) (by simp;omega) ?_;intro v' w4 hown' hgrow _ hat;obtain ⟨A3,c3,rfl⟩:=own_slice hown';have HO4:=Lib.hid hown';have HGr:=Lib.hid hgrow;have HAt:=Lib.hid hat;clear hown' hgrow hat)
    have hal:w2.grownBy ((w2.alloc (.cells #[.string OP,.slice An NL cn,.int .i64 k,.int .i64 m,.string s,.string u,.slice A0 n0 m0,.slice A1 n1 m1,.slice A2 n2 m2] 57)).alloc (.cells #[.string OP,.slice An NL cn,.int .i64 k,.int .i64 m,.string s,.string u,.slice A0 n0 m0,.slice A1 n1 m1,.slice A2 n2 m2] 57)) none:=grown_trans (World.grownBy_alloc w2 _ none) (World.grownBy_alloc _ _ none)
    have HP4:=Lib.hid ((HP2.out.kept hal (by simp) (by simp)).kept HGr.out (own_ne2 HO2.out hbl) (own_ne2 HO2.out hgl))
    have HG4:=Lib.hid (grown_own2 (grown_trans HG2.out (grown_trans (World.grownBy_alloc w2 _ _) (World.grownBy_alloc _ _ _))) HGr.out (fun k hk=>own_from2 HO2.out hk))
    have hsa:Same (fun x=>(w.heap.size≤x∧some x≠(Value.slice A' 0 c').ownBlock)∧x < w2.heap.size) w2 w4:=(Same.of_grown hal (fun x hx=>by simp)).trans (Same.of_grown HGr.out (fun x hx=>hx.1.2))
    have HTk:Hid (L.take (0+1)=L.take 0++[((op,ns),ex)]):=Lib.hid (by rw [List.take_add_one,HX.out];rfl)
    have HC4:Hid (CellsA (fun x=>w.heap.size≤x∧some x≠(Value.slice A3 (0+1) c3).ownBlock) w4 (L.take (0+1)) (cl++[[.string OP,.slice An NL cn,.int .i64 k,.int .i64 m,.string s,.string u,.slice A0 n0 m0,.slice A1 n1 m1,.slice A2 n2 m2]])):=Lib.hid (by
     rw [HTk.out]
     refine ((HC2.out.keep hsa).snoc (HR2.out.keep hsa)).weaken fun y hy=>⟨hy.1.1,?_⟩
     rcases HAt.out with e | e
     ·rw [e];exact hy.1.2
     ·rw [e]
      intro e2
      have e3:=Option.some.inj e2
      have:=hy.2
      simp at e3
      omega)
    go_roundw
    case rel=>exact ⟨0+1,A3,c3,_,by omega,.inr ⟨by omega,rfl⟩,rfl,Lib.hid (by rw [List.flatten_append];simpa using HO4.out),HC4,HP4,HG4⟩
    case measure=>simp [slLen2];omega
  ·have hks:kk≠0:=by omega
   by_cases hkn:kk < n
   ·obtain ⟨t,ht,hts⟩:=HC.out kk h0 hkn
    obtain ⟨x,hx⟩:∃ x,x=L[kk]'(by rw [← HN.out];exact hkn):=⟨_,rfl⟩
    have HX:Hid (L[kk]?=some x):=Lib.hid (by rw [hx];exact List.getElem?_eq_getElem _)
    have HSk:=Lib.hid (skip_yes b g go c ts (hd kk) dp t ⟨#[59]⟩ wr hP.out ht hts hlen)
    clear hts ht hx
    go_wp2_with fail
    refine HSk.out.mono ?_
    rintro e w1 ⟨rfl,hw⟩
    have HP1:=Lib.hid hw.1
    have HO1:=Lib.hid (hO.out.kept hw.2 (own_apart2 hO.out hbl))
    have HC1:=Lib.hid (hC.out.keep (Same.of_grown hw.2 (fun x hx=>by have:=hx.1;simp;omega)))
    have HG1:=Lib.hid (grown_trans hG.out hw.2)
    have hzw1:w.heap.size≤w1.heap.size:=Nat.le_trans hzr hw.2.size
    clear hw
    go_wp2_with fail
    have HLb:=Lib.hid (HL.out _ x HX.out)
    rw [if_neg hks] at HLb
    refine (HLb.out _ HG1.out HP1.out).mono ?_
    rintro e w2 (⟨An,cn,k,m,s,u,A0,n0,m0,A1,n1,m1,A2,n2,m2,rfl,hnm,hcn,hr,hw⟩ | ⟨hF,nxF,hnF,rfl,dpF,hpF,hgF⟩)
    rotate_left
    ·exact ⟨rfl,.inr ⟨hF,nxF,hnF,rfl,dpF,hpF,grown_trans HG1.out hgF⟩⟩
    obtain ⟨wm,hwe⟩:∃ wm,wm=w1:=⟨_,rfl⟩
    rw [← hwe] at hnm hr hw HO1 HC1 HG1 hzw1
    have hwm:w.heap.size≤wm.heap.size:=hzw1
    have HOm:=HO1
    have HCm:=HC1
    have HGm:=HG1
    clear hwe
    have HP2:=Lib.hid hw.1
    have HO2:=Lib.hid (HOm.out.kept hw.2 (own_apart2 HOm.out hbl))
    have HC2:=Lib.hid ((HCm.out.keep (Same.of_grown hw.2 (fun x hx=>by have:=hx.1;simp;omega))).tight)
    have HG2:=Lib.hid (grown_trans HGm.out hw.2)
    have HW2:=Lib.hid hw.2
    obtain ⟨⟨op,ns⟩,ex⟩:=x
    obtain ⟨NL,hNL⟩:∃ NL,NL=ns.length:=⟨_,rfl⟩
    obtain ⟨OP,hOP⟩:∃ OP,OP=strB op:=⟨_,rfl⟩
    have hokx:=HOk.out _ (List.mem_of_getElem? HX.out)
    have hres:∀ y,wm.heap.size≤y→w.heap.size≤y∧some y≠(Value.slice A' kk c').ownBlock:=fun y hy=>⟨by have:=hwm;omega,fun e=>by have:=(HOm.out.lt _ e.symm).2;omega⟩
    have HR2:Hid (ArmC (fun x=>(w.heap.size≤x∧some x≠(Value.slice A' kk c').ownBlock)∧x < w2.heap.size) w2 ((op,ns),ex) [.string OP,.slice An NL cn,.int .i64 k,.int .i64 m,.string s,.string u,.slice A0 n0 m0,.slice A1 n1 m1,.slice A2 n2 m2]):=Lib.hid (ArmC.weaken (ArmC.tight (P:=fun x=>wm.heap.size≤x) ⟨An,cn,[.int .i64 k,.int .i64 m,.string s,.string u,.slice A0 n0 m0,.slice A1 n1 m1,.slice A2 n2 m2],⟨hokx.1,hokx.2,hcn.1,hcn.2⟩,rfl,by rw [hOP,hNL],hnm,hr⟩) (fun y hy=>⟨hres y hy.1,hy.2⟩))
    rw [← hOP,← hNL]
    have hzw2:=HW2.out.size
    clear hr hw HLb hokx hnm hcn hres hNL hOP
    go_wp2_with (at_builtin;refine wpList_append_own_at _ rfl _ _ 25 rfl w.heap.size 57 i0 (.agg #[.string ⟨#[]⟩,.slice none 0 0,.int .i64 0,.int .i64 0,.string ⟨#[]⟩,.string ⟨#[]⟩,.slice none 0 0,.slice none 0 0,.slice none 0 0]) 9 160 Tryz.underlying25 hi hz0 hz1 hz2 rfl (by decide) _ _ _ rfl ((HO2.out.alloc _).alloc _) ⟨w2.heap.size+1,0,none⟩ 1 1 [.string OP,.slice An NL cn,.int .i64 k,.int .i64 m,.string s,.string u,.slice A0 n0 m0,.slice A1 n1 m1,.slice A2 n2 m2] rfl rfl (cell_am2 w2 _ _ _ _ _ _ _ _ _) (am_one _ _ _ _ _ _ _ _ _ _ _ _ _ _ _ _ _) (by unfold maxLen;omega) (by omega) (by simp;omega) ?_;intro v' w4 hown' hgrow _ hat;obtain ⟨A3,c3,rfl⟩:=own_slice hown';have HO4:=Lib.hid hown';have HGr:=Lib.hid hgrow;have HAt:=Lib.hid hat;clear hown' hgrow hat)
    have hal:w2.grownBy ((w2.alloc (.cells #[.string OP,.slice An NL cn,.int .i64 k,.int .i64 m,.string s,.string u,.slice A0 n0 m0,.slice A1 n1 m1,.slice A2 n2 m2] 57)).alloc (.cells #[.string OP,.slice An NL cn,.int .i64 k,.int .i64 m,.string s,.string u,.slice A0 n0 m0,.slice A1 n1 m1,.slice A2 n2 m2] 57)) none:=grown_trans (World.grownBy_alloc w2 _ none) (World.grownBy_alloc _ _ none)
    have HP4:=Lib.hid ((HP2.out.kept hal (by simp) (by simp)).kept HGr.out (own_ne2 HO2.out hbl) (own_ne2 HO2.out hgl))
    have HG4:=Lib.hid (grown_own2 (grown_trans HG2.out (grown_trans (World.grownBy_alloc w2 _ _) (World.grownBy_alloc _ _ _))) HGr.out (fun k hk=>own_from2 HO2.out hk))
    have hsa:Same (fun x=>(w.heap.size≤x∧some x≠(Value.slice A' kk c').ownBlock)∧x < w2.heap.size) w2 w4:=(Same.of_grown hal (fun x hx=>by simp)).trans (Same.of_grown HGr.out (fun x hx=>hx.1.2))
    have HTk:Hid (L.take (kk+1)=L.take kk++[((op,ns),ex)]):=Lib.hid (by rw [List.take_add_one,HX.out];rfl)
    have HC4:Hid (CellsA (fun x=>w.heap.size≤x∧some x≠(Value.slice A3 (kk+1) c3).ownBlock) w4 (L.take (kk+1)) (cl++[[.string OP,.slice An NL cn,.int .i64 k,.int .i64 m,.string s,.string u,.slice A0 n0 m0,.slice A1 n1 m1,.slice A2 n2 m2]])):=Lib.hid (by
     rw [HTk.out]
     refine ((HC2.out.keep hsa).snoc (HR2.out.keep hsa)).weaken fun y hy=>⟨hy.1.1,?_⟩
     rcases HAt.out with e | e
     ·rw [e];exact hy.1.2
     ·rw [e]
      intro e2
      have e3:=Option.some.inj e2
      have:=hy.2
      simp at e3
      omega)
    go_roundw
    case rel=>exact ⟨kk+1,A3,c3,_,by omega,.inr ⟨by omega,rfl⟩,rfl,Lib.hid (by rw [List.flatten_append];simpa using HO4.out),HC4,HP4,HG4⟩
    case measure=>simp [slLen2];omega
   ·obtain rfl:kk=n:=by omega
    obtain ⟨t,ht,hts⟩:=HD.out
    have HSk:=Lib.hid (skip_no b g go c ts (hd kk) dp t ⟨#[59]⟩ wr hP.out ht (by rw [hts];decide))
    clear hts ht
    go_wp2_with fail
    refine HSk.out.mono ?_
    rintro e w1 ⟨rfl,hb⟩
    have HP1:=Lib.hid (hP.out.below hb)
    have HO1:=Lib.hid (hO.out.kept (grown_below hb none) (by cases (Value.slice A' kk c').ownBlock <;> simp))
    have HC1:=Lib.hid (hC.out.keep (Same.of_below hb))
    have HG1:=Lib.hid (grown_trans hG.out (grown_below hb _))
    clear hb
    go_wp2_with fail
    rw [Exit.noGoto_ret]
    go_ret
    refine .inl ?_
    have hcl:=HC1.out.weaken (Q:=fun x=>w.heap.size≤x) (fun x hx=>hx.1)
    rw [List.take_of_length_le (by rw [← HN.out];exact Nat.le_refl _)] at hcl
    obtain ⟨l1,l2,l3⟩:=hcl.list HN.out HO1.out
    exact ⟨A',c',by rw [← HN.out];rfl,fun hne=>by obtain ⟨y,off,e1,e2,e3,e4⟩:=l1 hne;exact ⟨y,off,e1,e2,e3,e4⟩,by rw [← HN.out];exact ⟨l2,l3⟩,by rw [← HN.out];exact ⟨HP1.out,HG1.out⟩⟩
theorem toks_brace (w:World)(ty:Nat):NamesAt (fun x=>x=w.heap.size) (w.alloc (.cells #[.string ⟨#[125]⟩] ty)) (some ⟨w.heap.size,0,none⟩) [[125]]:=fun _=>by
 refine ⟨w.heap.size,0,rfl,rfl,by simp,fun j x hj=>?_⟩
 match j,hj with
 | 0,hj =>
  simp at hj;subst hj
  exact cell_of_row _ _ 0 _ _ (0,0) (heap_alloc_new w _)
 | j+1,hj=>simp at hj
set_option maxRecDepth 100000 in
set_option maxHeartbeats 2000000 in
theorem inBr_arm {F:Prop}(b g go c:Nat)(ts:List Rt)(nx dp:Nat)(t:Rt)(L:List Am)(hd:Nat→Nat)(w:World)(h:PS w b g go c ts nx dp)(ht:ts[nx]?=some t)(hs:t.s=[123])(h0:hd 0=nx+1)(hL:L.length≤100000)(hlen:ts.length≤100000)(hok:∀ x∈L,okS x.1.1∧∀ y∈x.1.2,okS y)
  (hread:∀ (kk:Nat) (x:Am),L[kk]?=some x→∀ w',w.grownBy w' (some b)→PS w' b g go c ts (if kk=0 then nx+1 else hd kk+1) dp→Calls Tryz.prog 151 #[.pointer (some ⟨b,0,none⟩)] w' (OF F w' b g go c ts (ArmTo w' b g go c ts (hd (kk+1)) dp x.1.1 x.1.2 x.2)))
  (hcomma:∀ kk,0 < kk→kk < L.length→∃ t,ts[hd kk]?=some t∧t.s=[59])
  (hfirst:0 < L.length→∃ t,ts[nx+1]?=some t∧t.s≠[125])
  (hend:∃ t,ts[hd L.length]?=some t∧t.s=[125]) :
  Calls Tryz.prog 150 #[.pointer (some ⟨b,0,none⟩),.func (.func 151) #[.pointer (some ⟨b,0,none⟩)] #[]] w (OF F w b g go c ts (ArmsTo w b g go c ts (hd L.length+1) dp L)):=by
 have HN:=Lib.hid (fun w h=>need_ok b g go c ts nx dp t ⟨#[123]⟩ w h ht hs hlen)
 have hmf:∀ (fn:Fn) (first cap:Array Value) (w:World),(Instr.makeFunc fn first cap).run Tryz.prog w=.ok (.func fn first cap) w:=fun _ _ _ _=>rfl
 obtain ⟨t2,ht2,hs2⟩:=hend
 have HN2:=Lib.hid (fun w h=>need_ok b g go c ts (hd L.length) dp t2 ⟨#[125]⟩ w h ht2 hs2 hlen)
 have HEnd:Hid (∃ t,ts[hd L.length]?=some t∧t.s=[125]):=Lib.hid ⟨t2,ht2,hs2⟩
 have H:=Lib.hid h
 have HRd:=Lib.hid hread
 have HCm:=Lib.hid hcomma
 have HFi:=Lib.hid hfirst
 have HOk:=Lib.hid hok
 have hbl:=h.blt
 have hgl:=h.lt
 clear h ht hs ht2 hs2 hread hcomma hfirst hok
 go_enter Tryz.func150,Tryz.ntmps150
 go_wp2_with fail
 refine (HN.out _ H.out).mono ?_
 rintro e w1 ⟨rfl,hw⟩
 have H1:=Lib.hid hw.1
 have HG1:=Lib.hid hw.2
 have hz1:=hw.2.size
 clear hw
 go_wp2_with fail
 obtain ⟨W2,hW2⟩:∃ W2,w1.alloc (.cells #[.string ⟨#[125]⟩] 9)=W2:=⟨_,rfl⟩
 have hg2:w1.grownBy W2 none:=by rw [← hW2];exact World.grownBy_alloc _ _ _
 have HZ2:Hid (NamesAt (fun x=>x=w1.heap.size) W2 (some ⟨w1.heap.size,0,none⟩) [[125]]):=Lib.hid (by rw [← hW2];exact toks_brace w1 _)
 have hz2:W2.heap.size=w1.heap.size+1:=by rw [← hW2];simp
 rw [hW2]
 have H2:=Lib.hid (H1.out.kept hg2 (by simp) (by simp))
 have HG2:Hid (w.grownBy W2 (some b)):=Lib.hid (grown_trans HG1.out (Below.grownBy' hg2))
 clear hW2 hg2
 refine (sepA_arm b g go c w1.heap.size ts (nx+1) dp L hd W2 H2.out (HZ2.out.weaken (fun x hx=>by omega)) h0 hL hlen HOk.out (fun kk x hx w' hg hp=>HRd.out kk x hx w' (grown_trans HG2.out hg) hp) HCm.out HFi.out HEnd.out).mono ?_
 rintro e w3 (⟨A,cap,rfl,hl,hcp,hw⟩ | ⟨hF,nxF,hnF,rfl,dpF,hpF,hgF⟩)
 rotate_left
 ·exact ⟨rfl,.inr ⟨hF,nxF,hnF,rfl,dpF,hpF,grown_trans HG2.out hgF⟩⟩
 have H3:=Lib.hid hw.1
 have HG3:Hid (w.grownBy w3 (some b)):=Lib.hid (grown_trans HG2.out hw.2)
 have HL3:=Lib.hid hl
 have HCp:=Lib.hid hcp
 obtain ⟨NL,hNL⟩:∃ NL,NL=L.length:=⟨_,rfl⟩
 rw [← hNL]
 have HNL:=Lib.hid hNL
 clear hw hl hcp hNL
 go_wp2_with fail
 refine (HN2.out _ H3.out).mono ?_
 rintro e w4 ⟨rfl,hw⟩
 have H4:=Lib.hid hw.1
 have HG4:=Lib.hid (grown_trans HG3.out hw.2)
 have HS4:=Lib.hid (Same.of_grown (P:=fun x=>x≠b∧w.heap.size≤x) hw.2 (fun x hx=>by simpa using hx.1))
 have hz4:=hw.2.size
 clear hw
 go_wp2_with fail
 go_ret
 refine .inl ⟨A,cap,by rw [HNL.out];rfl,fun h0=>?_,HCp.out,H4.out,HG4.out⟩
 obtain ⟨x,off,e,h1,h2,h3⟩:=HL3.out h0
 exact ⟨x,off,e,by omega,Nat.lt_of_lt_of_le h2 hz4,(RepA.keep HS4.out ⟨by omega,by omega⟩ h2 (h3.weaken (fun y hy=>⟨by omega,by omega⟩))).weaken (fun y hy=>hy.2)⟩
set_option maxRecDepth 100000 in
set_option maxHeartbeats 2000000 in
theorem inBr_cl {F:Prop}(b g go c fb xp:Nat)(ts:List Rt)(nx dp:Nat)(t:Rt)(L:List Am)(hd:Nat→Nat)(wb w:World)(h:PS w b g go c ts nx dp)(hgb:wb.grownBy w (some b))(hfb:wb.heap.size≤fb∧fb < w.heap.size∧fb≠b∧fb≠g)(hbw:b < wb.heap.size)(hbx:BxB w fb true)(ht:ts[nx]?=some t)(hs:t.s=[123])(h0:hd 0=nx+1)(hL:L.length≤100000)(hlen:ts.length≤100000)(hok:∀ x∈L,okS x.1.1∧∀ y∈x.1.2,okS y)
  (hread:∀ (kk:Nat) (x:Am),L[kk]?=some x→∀ w',wb.grownBy w' (some b)→PS w' b g go c ts (if kk=0 then nx+1 else hd kk+1) dp→BxB w' fb (kk == 0)→Calls Tryz.prog 167 #[.pointer (some ⟨fb,0,none⟩),.pointer (some ⟨xp,0,none⟩)] w' (OF F wb b g go c ts fun e w2=>∃ wm,w'.grownBy wm (some fb)∧BxB wm fb false∧ArmTo wm b g go c ts (hd (kk+1)) dp x.1.1 x.1.2 x.2 e w2))
  (hcomma:∀ kk,0 < kk→kk < L.length→∃ t,ts[hd kk]?=some t∧t.s=[59])
  (hfirst:0 < L.length→∃ t,ts[nx+1]?=some t∧t.s≠[125])
  (hend:∃ t,ts[hd L.length]?=some t∧t.s=[125]) :
  Calls Tryz.prog 150 #[.pointer (some ⟨b,0,none⟩),.func (.func 167) #[] #[.pointer (some ⟨fb,0,none⟩),.pointer (some ⟨xp,0,none⟩)]] w (OF F wb b g go c ts (ArmsTo wb b g go c ts (hd L.length+1) dp L)):=by
 have HN:=Lib.hid (fun w h=>need_ok b g go c ts nx dp t ⟨#[123]⟩ w h ht hs hlen)
 have hmf:∀ (fn:Fn) (first cap:Array Value) (w:World),(Instr.makeFunc fn first cap).run Tryz.prog w=.ok (.func fn first cap) w:=fun _ _ _ _=>rfl
 obtain ⟨t2,ht2,hs2⟩:=hend
 have HN2:=Lib.hid (fun w h=>need_ok b g go c ts (hd L.length) dp t2 ⟨#[125]⟩ w h ht2 hs2 hlen)
 have HEnd:Hid (∃ t,ts[hd L.length]?=some t∧t.s=[125]):=Lib.hid ⟨t2,ht2,hs2⟩
 have H:=Lib.hid h
 have HRd:=Lib.hid hread
 have HCm:=Lib.hid hcomma
 have HFi:=Lib.hid hfirst
 have HOk:=Lib.hid hok
 have hbl:=h.blt
 have hgl:=h.lt
 have HGb:=Lib.hid hgb
 have HBx:=Lib.hid hbx
 obtain ⟨z0,z1,z2,z3⟩:=hfb
 clear h ht hs ht2 hs2 hread hcomma hfirst hok
 go_enter Tryz.func150,Tryz.ntmps150
 go_wp2_with fail
 refine (HN.out _ H.out).mono ?_
 rintro e w1 ⟨rfl,hw⟩
 have H1:=Lib.hid hw.1
 have HG1:=Lib.hid hw.2
 have hz1:=hw.2.size
 have HB1:=Lib.hid (HBx.out.kept HG1.out (by simp;omega))
 clear hw
 go_wp2_with fail
 obtain ⟨W2,hW2⟩:∃ W2,w1.alloc (.cells #[.string ⟨#[125]⟩] 9)=W2:=⟨_,rfl⟩
 have hg2:w1.grownBy W2 none:=by rw [← hW2];exact World.grownBy_alloc _ _ _
 have HZ2:Hid (NamesAt (fun x=>x=w1.heap.size) W2 (some ⟨w1.heap.size,0,none⟩) [[125]]):=Lib.hid (by rw [← hW2];exact toks_brace w1 _)
 have hz2:W2.heap.size=w1.heap.size+1:=by rw [← hW2];simp
 rw [hW2]
 have H2:=Lib.hid (H1.out.kept hg2 (by simp) (by simp))
 have HG2:Hid (wb.grownBy W2 (some b)):=Lib.hid (grown_trans (grown_trans HGb.out HG1.out) (Below.grownBy' hg2))
 have HB2:=Lib.hid (HB1.out.kept hg2 (by simp))
 clear hW2 hg2
 refine (sepA_cl b g go c w1.heap.size fb xp ts (nx+1) dp L hd wb W2 H2.out HG2.out ⟨z0,by omega,z2,z3⟩ HB2.out (HZ2.out.weaken (fun x hx=>⟨by omega,by omega⟩)) h0 hL hlen HOk.out (fun kk x hx w' hg hp hb=>HRd.out kk x hx w' hg hp hb) HCm.out HFi.out HEnd.out).mono ?_
 rintro e w3 (⟨A,cap,rfl,hl,hcp,hw⟩ | ⟨hF,nxF,hnF,rfl,dpF,hpF,hgF⟩)
 rotate_left
 ·exact ⟨rfl,.inr ⟨hF,nxF,hnF,rfl,dpF,hpF,hgF⟩⟩
 have H3:=Lib.hid hw.1
 have HG3:Hid (wb.grownBy w3 (some b)):=Lib.hid hw.2
 have HL3:=Lib.hid hl
 have HCp:=Lib.hid hcp
 obtain ⟨NL,hNL⟩:∃ NL,NL=L.length:=⟨_,rfl⟩
 rw [← hNL]
 have HNL:=Lib.hid hNL
 clear hw hl hcp hNL
 go_wp2_with fail
 refine (HN2.out _ H3.out).mono ?_
 rintro e w4 ⟨rfl,hw⟩
 have H4:=Lib.hid hw.1
 have HG4:=Lib.hid (grown_trans HG3.out hw.2)
 have HS4:=Lib.hid (Same.of_grown (P:=fun x=>x≠b∧wb.heap.size≤x) hw.2 (fun x hx=>by simpa using hx.1))
 have hz4:=hw.2.size
 clear hw
 go_wp2_with fail
 go_ret
 refine .inl ⟨A,cap,by rw [HNL.out];rfl,fun h0=>?_,HCp.out,H4.out,HG4.out⟩
 obtain ⟨x,off,e,h1,h2,h3⟩:=HL3.out h0
 exact ⟨x,off,e,by omega,Nat.lt_of_lt_of_le h2 hz4,(RepA.keep HS4.out ⟨by omega,by omega⟩ h2 (h3.weaken (fun y hy=>⟨by omega,by omega⟩))).weaken (fun y hy=>hy.2)⟩
set_option maxRecDepth 100000 in
set_option maxHeartbeats 2000000 in
theorem clauses_any {F:Prop}(b g go c:Nat)(ts:List Rt)(nx dp:Nat)(t:Rt)(L:List Am)(hd:Nat→Nat)(w:World)(h:PS w b g go c ts nx dp)(ht:ts[nx]?=some t)(hs:t.s=[123])(h0:hd 0=nx+1)(hL:L.length≤100000)(hlen:ts.length≤100000)(hok:∀ x∈L,okS x.1.1∧∀ y∈x.1.2,okS y)
  (hret:∀ x,L[0]?=some x→x.1.1=retT∧∃ t,ts[nx+1]?=some t∧t.s=retT)
  (hop:∀ (kk:Nat) (x:Am),0 < kk→L[kk]?=some x→∃ t,ts[hd kk+1]?=some t∧t.k=0∧t.s=x.1.1)
  (hbody:∀ (kk:Nat) (x:Am),L[kk]?=some x→∀ w',w.grownBy w' (some b)→PS w' b g go c ts ((if kk=0 then nx+1 else hd kk+1)+1) dp→Calls Tryz.prog 159 #[.pointer (some ⟨b,0,none⟩),.string (strB x.1.1)] w' (OF F w' b g go c ts (ArmTo w' b g go c ts (hd (kk+1)) dp x.1.1 x.1.2 x.2)))
  (hcomma:∀ kk,0 < kk→kk < L.length→∃ t,ts[hd kk]?=some t∧t.s=[59])
  (hend:∃ t,ts[hd L.length]?=some t∧t.s=[125]) :
  Calls Tryz.prog 160 #[.pointer (some ⟨b,0,none⟩)] w (OF F w b g go c ts (ArmsTo w b g go c ts (hd L.length+1) dp L)):=by
 have hmf:∀ (fn:Fn) (first cap:Array Value) (w:World),(Instr.makeFunc fn first cap).run Tryz.prog w=.ok (.func fn first cap) w:=fun _ _ _ _=>rfl
 have hbl:=h.blt
 have hgl:=h.lt
 obtain ⟨wb,hwb⟩:∃ wb,w.alloc (.cells #[.pointer (some ⟨b,0,none⟩)] 54)=wb:=⟨_,rfl⟩
 have hgw:w.grownBy wb none:=by rw [← hwb];exact World.grownBy_alloc _ _ _
 have hzb:wb.heap.size=w.heap.size+1:=by rw [← hwb];simp
 have HXb:Hid (BoxP wb w.heap.size b):=Lib.hid (by rw [← hwb];exact heap_alloc_new w _)
 obtain ⟨W1,hW1⟩:∃ W1,wb.alloc (.cells #[.bool true] 4)=W1:=⟨_,rfl⟩
 have hg1:wb.grownBy W1 none:=by rw [← hW1];exact World.grownBy_alloc _ _ _
 have hz1:W1.heap.size=wb.heap.size+1:=by rw [← hW1];simp
 have HF1:Hid (BxB W1 wb.heap.size true):=Lib.hid (by rw [← hW1];exact heap_alloc_new wb _)
 have HIn:=Lib.hid (inBr_cl (F:=F) b g go c wb.heap.size w.heap.size ts nx dp t L hd wb W1 ((h.kept hgw (by simp) (by simp)).kept hg1 (by simp) (by simp)) (Below.grownBy' hg1) ⟨Nat.le_refl _,by omega,by omega,by omega⟩ (by omega) HF1.out ht hs h0 hL hlen hok
  (fun kk x hx w' hg hp hb=>by
   have hX':=HXb.out.kept hg (by simp;omega)
   by_cases hk:kk=0
   ·subst hk
    obtain ⟨hx1,t1,ht1,hs1⟩:=hret x hx
    obtain ⟨⟨op,ns⟩,ex⟩:=x
    dsimp only at hx1
    subst hx1
    exact cl_first b g go c wb.heap.size w.heap.size ts (nx+1) (hd (0+1)) dp t1 ns ex wb w' hp hg ⟨Nat.le_refl _,by omega,by omega,by omega⟩ hb hX' ht1 hs1 hlen (Lib.hid fun w2 hg2 hp2=>hbody 0 _ hx w2 (grown_trans (Below.grownBy' hgw) hg2) hp2)
   ·obtain ⟨t1,ht1,hk1,hs1⟩:=hop kk x (by omega) hx
    rw [if_neg hk] at hp
    have hb':BxB w' wb.heap.size false:=by rw [show (kk == 0)=false from beq_eq_false_iff_ne.2 hk] at hb;exact hb
    obtain ⟨⟨op,ns⟩,ex⟩:=x
    dsimp only at hs1
    subst hs1
    refine (cl_next (F:=F) b g go c wb.heap.size w.heap.size ts (hd kk+1) (hd (kk+1)) dp t1 ns ex w' hp hb' hX' ht1 hk1 hlen (Lib.hid fun w2 hg2 hp2=>?_)).mono fun e w2 hr=>?_
    ·have:=hbody kk _ hx w2 (grown_trans (grown_trans (Below.grownBy' hgw) hg) hg2)
     rw [if_neg hk] at this
     exact this hp2
    ·rcases hr with hr | ⟨hF,n,hn,e1,dp',hp',hg'⟩
     ·exact .inl ⟨w',⟨rfl,rfl,rfl,Nat.le_refl _,fun _ _ _=>rfl⟩,hb',hr⟩
     ·exact .inr ⟨hF,n,hn,e1,dp',hp',grown_trans hg hg'⟩)
  hcomma (fun hn=>by
   obtain ⟨_,t1,ht1,hs1⟩:=hret L[0] (List.getElem?_eq_getElem hn)
   exact ⟨t1,ht1,by rw [hs1];decide⟩) hend)
 have x1:=(HXb.out.kept hg1 (by simp)).c
 rw [hzb] at HIn
 clear h ht hs hok hret hop hbody hcomma hend
 go_enter Tryz.func160,Tryz.ntmps160
 go_wp2_with fail
 clear hwb hW1
 refine HIn.out.mono ?_
 rintro e w3 (⟨A,cap,rfl,hl,hcp,hw⟩ | ⟨hF,nxF,hnF,rfl,dpF,hpF,hgF⟩)
 rotate_left
 ·exact ⟨rfl,.inr ⟨hF,nxF,hnF,rfl,dpF,hpF,grown_trans (Below.grownBy' hgw) hgF⟩⟩
 obtain ⟨NL,hNL⟩:∃ NL,NL=L.length:=⟨_,rfl⟩
 rw [← hNL]
 have HNL:=Lib.hid hNL
 clear hNL
 go_wp2_with fail
 go_ret
 refine .inl ⟨A,cap,by rw [HNL.out];rfl,fun h0=>?_,hcp,hw.1,grown_trans (Below.grownBy' hgw) hw.2⟩
 obtain ⟨x,off,e,h1,h2,h3⟩:=hl h0
 exact ⟨x,off,e,by omega,h2,h3.weaken (fun y hy=>by omega)⟩
def moreKy (sep:Ky)(r:List (List Ky)):List Ky:=r.flatMap fun y=>sep :: y
theorem listKy_app (sep:Ky):∀ (A r:List (List Ky)),A≠[]→listKy sep (A++r)=listKy sep A++moreKy sep r
 | [],r,h=>absurd rfl h
 | y :: q,r,_=>by
  rw [List.cons_append]
  show y++(q++r).flatMap _=(y++q.flatMap _)++moreKy sep r
  rw [List.flatMap_append,List.append_assoc]
  rfl
theorem listKy_snoc (sep:Ky)(A:List (List Ky))(x:List Ky):listKy sep (A++[x])=listKy sep A++((if A.length=0 then [] else [sep])++x):=by
 cases A with
 | nil=>simp [listKy]
 | cons y q=>rw [listKy_app sep _ _ (by simp)];simp [moreKy]
theorem take_snoc {α:Type}{L:List α}{kk:Nat}{x:α}(h:L[kk]?=some x):L.take (kk+1)=L.take kk++[x]:=by rw [List.take_add_one,h];rfl
theorem take_len {α:Type}{L:List α}{kk:Nat}{x:α}(h:L[kk]?=some x):(L.take kk).length=kk:=by
 have:=(List.getElem?_eq_some_iff.1 h).1
 rw [List.length_take];omega
theorem listKy_split (sep:Ky){L:List (List Ky)}{kk:Nat}{x:List Ky}(h:L[kk]?=some x):listKy sep L=listKy sep (L.take kk)++((if kk=0 then [] else [sep])++(x++moreKy sep (L.drop (kk+1)))):=by
 have h1:=take_snoc h
 have hx:L=(L.take kk++[x])++L.drop (kk+1):=by rw [← h1,List.take_append_drop]
 rw [show listKy sep L=listKy sep ((L.take kk++[x])++L.drop (kk+1)) by rw [← hx],listKy_app _ _ _ (by simp),listKy_snoc,take_len h]
 simp
def lsHd (sep:Ky)(L:List (List Ky))(nx kk:Nat):Nat:=nx+(listKy sep (L.take kk)).length
theorem lsHd_0 (sep:Ky)(L:List (List Ky))(nx:Nat):lsHd sep L nx 0=nx:=by simp [lsHd,listKy]
theorem lsHd_all (sep:Ky)(L:List (List Ky))(nx:Nat):lsHd sep L nx L.length=nx+(listKy sep L).length:=by unfold lsHd;rw [List.take_length]
theorem lsHd_succ {sep:Ky}{L:List (List Ky)}{nx kk:Nat}{x:List Ky}(h:L[kk]?=some x):lsHd sep L nx (kk+1)=(if kk=0 then nx else lsHd sep L nx kk+1)+x.length:=by
 unfold lsHd
 rw [take_snoc h,listKy_snoc,take_len h]
 by_cases h0:kk=0
 ·subst h0
  simp [listKy]
 ·rw [if_neg h0,if_neg h0]
  simp only [List.length_append,List.length_cons,List.length_nil]
  omega
theorem ls_at {ts:List Rt}{nx:Nat}{sep:Ky}{L:List (List Ky)}(hk:KAt ts nx (listKy sep L)){kk:Nat}{x:List Ky}(h:L[kk]?=some x):KAt ts (if kk=0 then nx else lsHd sep L nx kk+1) x:=by
 rw [listKy_split sep h] at hk
 by_cases h0:kk=0
 ·subst h0
  rw [if_pos rfl]
  have:=hk.right.right.left
  simpa [listKy] using this
 ·rw [if_neg h0]
  have:=hk.right
  rw [if_neg h0] at this
  exact this.right.left
theorem ls_sep {ts:List Rt}{nx:Nat}{sep:Ky}{L:List (List Ky)}(hk:KAt ts nx (listKy sep L)){kk:Nat}(h0:0 < kk)(h:kk < L.length):∃ t,ts[lsHd sep L nx kk]?=some t∧t.k=sep.1∧t.s=sep.2.1:=by
 have hx:=List.getElem?_eq_getElem h
 rw [listKy_split sep hx,if_neg (by omega)] at hk
 obtain ⟨t,ht,h1,h2,_⟩:=(show KAt ts _ (sep :: _) from hk.right).head
 exact ⟨t,ht,h1,h2⟩
theorem endF_sym {ts:List Rt}{nx:Nat}{t:Rt}(ht:ts[nx]?=some t)(hk:t.k=4)(hs:t.s∈([[41],[93],[44],[59],[123],[125]]:List Txt)):EndF ts nx:=by
 have key:∀ x∈([[41],[93],[44],[59],[123],[125]]:List Txt),(x≠[116,114,117,101]∧x≠[102,97,108,115,101]∧x≠[40]∧x≠[109,97,116,99,104]∧x≠[104,97,110,100,108,101]∧x≠[115,104,97,108,108,111,119]∧x≠[110,97,109,101,100])∧opLv x=none∧x≠[46]∧x≠[91]:=by decide
 obtain ⟨h1,h2,h3,h4⟩:=key _ hs
 exact ⟨t,ht,⟨by omega,h1⟩,h2,h3,h4⟩
def endW:List Txt:=[[105,110],[116,104,101,110],[101,108,115,101],[99,108,111,115,101]]
theorem endF_kw {ts:List Rt}{nx:Nat}{t:Rt}(ht:ts[nx]?=some t)(hk:t.k=1)(hs:t.s∈endW):EndF ts nx:=by
 have key:∀ x∈endW,(x≠[116,114,117,101]∧x≠[102,97,108,115,101]∧x≠[40]∧x≠[109,97,116,99,104]∧x≠[104,97,110,100,108,101]∧x≠[115,104,97,108,108,111,119]∧x≠[110,97,109,101,100])∧opLv x=none∧x≠[46]∧x≠[91]:=by decide
 obtain ⟨h1,h2,h3,h4⟩:=key _ hs
 exact ⟨t,ht,⟨by omega,h1⟩,h2,h3,h4⟩
theorem ls_end {ts:List Rt}{nx:Nat}{sep:Ky}{L:List (List Ky)}(hk:KAt ts nx (listKy sep L))(hs:sep=(4,[44],0)∨sep=(4,[59],0))(he:EndF ts (nx+(listKy sep L).length)){kk:Nat}(h:kk < L.length):EndF ts (lsHd sep L nx (kk+1)):=by
 by_cases h1:kk+1 < L.length
 ·obtain ⟨t,ht,k1,k2⟩:=ls_sep hk (by omega) h1
  rcases hs with rfl | rfl
  ·exact endF_sym ht k1 (by rw [k2];decide)
  ·exact endF_sym ht k1 (by rw [k2];decide)
 ·rw [show kk+1=L.length by omega,lsHd_all];exact he
def Dp (F:Prop)(e:Ex)(dp:Nat):Prop:=dp+2*hE e≤400∨F
theorem exprs_read {F:Prop}(b g go c:Nat)(ts:List Rt)(nx dp:Nat)(L:List Ex)(w:World)(hp:PS w b g go c ts nx dp)(hok:TokOk ts)(hk:KAt ts nx (listKy (4,[44],0) (L.map (atKE 0))))(hL0:0 < L.length)(hL:L.length≤100000)(hR:∀ x∈L,RdX x)(hd:dp≤400)(hD:∀ x∈L,Dp F x dp)
  (hend:∃ t,ts[nx+(listKy (4,[44],0) (L.map (atKE 0))).length]?=some t∧t.k=4∧t.s=[93]) :
  Calls Tryz.prog 149 #[.pointer (some ⟨b,0,none⟩),.string ⟨#[44]⟩,.func (.func 20) #[.pointer (some ⟨b,0,none⟩)] #[],.slice none 0 0] w (OF F w b g go c ts (ListTo w b g go c ts (nx+(listKy (4,[44],0) (L.map (atKE 0))).length) dp L)):=by
 obtain ⟨te,hte,k1,k2⟩:=hend
 have he:=endF_sym hte k1 (by rw [k2];decide)
 have hall:lsHd (4,[44],0) (L.map (atKE 0)) nx L.length=nx+(listKy (4,[44],0) (L.map (atKE 0))).length:=by
  have:=lsHd_all (4,[44],0) (L.map (atKE 0)) nx
  rwa [List.length_map] at this
 have hat:∀ {kk:Nat} {x:Ex},L[kk]?=some x→(L.map (atKE 0))[kk]?=some (atKE 0 x):=fun h=>by rw [List.getElem?_map,h];rfl
 rw [← hall]
 refine sepE_any b g go c ts nx dp L (lsHd (4,[44],0) (L.map (atKE 0)) nx) w hp (lsHd_0 _ _ _) hL0 hL hok.1 (fun kk x hx w1 hg1 hp1=>?_) (fun kk h0 hkk=>?_) ⟨_,List.getElem?_eq_getElem (show nx < ts.length by have:=at_lt hte;omega)⟩ ⟨te,by rw [hall];exact hte,by rw [k2];decide⟩
 ·have hm:=List.mem_of_getElem? hx
  have:=hR x hm F b g go c ts _ dp w1 hp1 hok (ls_at hk (hat hx)) (by
   rw [← lsHd_succ (hat hx)]
   exact ls_end hk (.inl rfl) he (by rw [List.length_map];exact (List.getElem?_eq_some_iff.1 hx).1)) hd (hD x hm)
  rwa [← lsHd_succ (hat hx)] at this
 ·obtain ⟨t,ht,_,h2⟩:=ls_sep hk h0 (by rw [List.length_map];exact hkk)
  exact ⟨t,ht,h2⟩
theorem nm_ne2 {f:Int}{s:Txt}(h:isNm f s=true)(c:UInt8)(hc:kb c=0):s≠[c]:=by
 rintro rfl
 exact (isNm_all h).2.1 c (by simp) hc
theorem armOf_read {F:Prop}(b g go c:Nat)(ts:List Rt)(nx dp:Nat)(op:Txt)(ns:List Txt)(e:Ex)(w:World)(hp:PS w b g go c ts nx dp)(hok:TokOk ts)(hk:KAt ts nx (ns.map wk++((4,[45,62],0) :: atKE 0 e)))(hn:∀ x∈ns,isV x=true)(hR:RdX e)(hd:dp≤400)(hD:Dp F e dp)
  (he:EndF ts (nx+(ns.map wk++((4,[45,62],0) :: atKE 0 e)).length)) :
  Calls Tryz.prog 159 #[.pointer (some ⟨b,0,none⟩),.string (strB op)] w (OF F w b g go c ts (ArmTo w b g go c ts (nx+(ns.map wk++((4,[45,62],0) :: atKE 0 e)).length) dp op ns e)):=by
 have kn:=hk.left
 have kr:=hk.right
 rw [List.length_map] at kr
 obtain ⟨t1,ht1,tk1,ts1,_⟩:=kr.head
 have ke:=kr.tail
 have hend:nx+(ns.map wk++((4,[45,62],0) :: atKE 0 e)).length=nx+ns.length+1+(atKE 0 e).length:=by simp only [List.length_append,List.length_map,List.length_cons];omega
 rw [hend] at he ⊢
 have hlt:=at_lt ht1
 have hl:=hok.1
 refine armOf_any b g go c ts nx (nx+ns.length) _ dp t1 op ns e w hp ht1 ts1 hok.1 (Lib.hid fun w1 hg1 hp1=>?_) (Lib.hid fun w1 hg1 hp1=>hR F b g go c ts _ dp w1 hp1 hok ke he hd hD)
 refine lowers_any b g go c ts nx dp ns w1 hp1 (by omega) hok.1 (fun kk x hx=>?_) ⟨t1,ht1,by rw [tk1];decide⟩
 have hv:=hn x (List.mem_of_getElem? hx)
 obtain ⟨t,ht,q1,q2,_⟩:=kn kk (wk x) (by rw [List.getElem?_map,hx];rfl)
 rw [wk_v hv] at q1 q2
 exact ⟨t,ht,q1,q2⟩
theorem armKE_eq (x:Am):armKE x=wk x.1.1 :: (x.1.2.map wk++((4,[45,62],0) :: atKE 0 x.2)):=rfl
theorem okS_v {s:Txt}(h:isV s=true):okS s:=by have:=(isNm_all (v_nm h).1).2.2.1;unfold okS maxLen;omega
theorem okS_u {s:Txt}(h:isNm 2 s=true):okS s:=by have:=(isNm_all h).2.2.1;unfold okS maxLen;omega
def amHd (L:List Am)(nx kk:Nat):Nat:=lsHd (4,[59],0) (L.map armKE) (nx+1) kk
theorem am_at {L:List Am}{kk:Nat}{x:Am}(h:L[kk]?=some x):(L.map armKE)[kk]?=some (armKE x):=by rw [List.getElem?_map,h];rfl
theorem cases_read {F:Prop}(b g go c:Nat)(ts:List Rt)(nx dp:Nat)(L:List Am)(w:World)(hp:PS w b g go c ts nx dp)(hok:TokOk ts)(hk:KAt ts nx (armsKE L))(hL:L.length≤100000)(hn:∀ x∈L,isNm 2 x.1.1=true∧∀ y∈x.1.2,isV y=true)(hR:∀ x∈L,RdX x.2)(hd:dp≤400)(hD:∀ x∈L,Dp F x.2 dp) :
  Calls Tryz.prog 150 #[.pointer (some ⟨b,0,none⟩),.func (.func 151) #[.pointer (some ⟨b,0,none⟩)] #[]] w (OF F w b g go c ts (ArmsTo w b g go c ts (nx+(armsKE L).length) dp L)):=by
 unfold armsKE at hk ⊢
 obtain ⟨t,ht,_,tsx,_⟩:=hk.head
 have kl:=hk.tail.left
 obtain ⟨te,hte,k1,k2,_⟩:=hk.tail.right.head
 have he:=endF_sym hte k1 (by rw [k2];decide)
 have hall:amHd L nx L.length=nx+1+(listKy (4,[59],0) (L.map armKE)).length:=by
  have:=lsHd_all (4,[59],0) (L.map armKE) (nx+1)
  rwa [List.length_map] at this
 have hend:nx+((4,[123],0) :: (listKy (4,[59],0) (L.map armKE)++[(4,[125],0)]):List Ky).length=amHd L nx L.length+1:=by
  rw [hall];simp only [List.length_cons,List.length_append,List.length_nil];omega
 rw [hend]
 have hsuc:∀ {kk:Nat} {x:Am},L[kk]?=some x→amHd L nx (kk+1)=(if kk=0 then nx+1 else amHd L nx kk+1)+(armKE x).length:=fun h=>lsHd_succ (am_at h)
 refine inBr_arm b g go c ts nx dp t L (amHd L nx) w hp ht tsx (lsHd_0 _ _ _) hL hok.1 (fun x hx=>⟨okS_u (hn x hx).1,fun y hy=>okS_v ((hn x hx).2 y hy)⟩) (fun kk x hx w1 hg1 hp1=>?_) (fun kk h0 hkk=>?_) (fun h0=>?_) ⟨te,by rw [hall];exact hte,k2⟩
 ·have hm:=List.mem_of_getElem? hx
  have hka:=ls_at kl (am_at hx)
  rw [armKE_eq,wk_u (hn x hm).1] at hka
  obtain ⟨t1,ht1,q1,q2,_⟩:=hka.head
  have hl1:(armKE x).length=1+(x.1.2.map wk++((4,[45,62],0) :: atKE 0 x.2)).length:=by rw [armKE_eq,List.length_cons];omega
  have hen:=ls_end kl (.inr rfl) he (kk:=kk) (by rw [List.length_map];exact (List.getElem?_eq_some_iff.1 hx).1)
  have e2:=hsuc hx
  rw [hl1,← Nat.add_assoc] at e2
  have hen':EndF ts (amHd L nx (kk+1)):=hen
  rw [e2] at hen' ⊢
  have:=pArm_any (F:=F) b g go c ts _ _ dp t1 x.1.2 x.2 w1 hp1 ht1 q1 hok.1 (Lib.hid fun w2 hg2 hp2=>armOf_read b g go c ts _ dp t1.s x.1.2 x.2 w2 hp2 hok hka.tail (hn x hm).2 (hR x hm) hd (hD x hm) hen')
  rwa [q2] at this
 ·obtain ⟨t,ht,_,h2⟩:=ls_sep kl h0 (by rw [List.length_map];exact hkk)
  exact ⟨t,ht,h2⟩
 ·obtain ⟨x,hx⟩:∃ x,L[0]?=some x:=⟨_,List.getElem?_eq_getElem h0⟩
  have hka:=ls_at kl (am_at hx)
  rw [if_pos rfl,armKE_eq,wk_u (hn x (List.mem_of_getElem? hx)).1] at hka
  obtain ⟨t1,ht1,q1,q2,_⟩:=hka.head
  exact ⟨t1,ht1,by rw [q2];exact nm_ne2 (hn x (List.mem_of_getElem? hx)).1 125 (by decide)⟩
theorem clauses_read {F:Prop}(b g go c:Nat)(ts:List Rt)(nx dp:Nat)(L:List Am)(w:World)(hp:PS w b g go c ts nx dp)(hok:TokOk ts)(hk:KAt ts nx (armsKE L))(hL:L.length≤100000)(h0:∀ x,L[0]?=some x→x.1.1=retW)(h1:∀ kk x,0 < kk→L[kk]?=some x→isV x.1.1=true)(hn:∀ x∈L,∀ y∈x.1.2,isV y=true)(hR:∀ x∈L,RdX x.2)(hd:dp≤400)(hD:∀ x∈L,Dp F x.2 dp) :
  Calls Tryz.prog 160 #[.pointer (some ⟨b,0,none⟩)] w (OF F w b g go c ts (ArmsTo w b g go c ts (nx+(armsKE L).length) dp L)):=by
 unfold armsKE at hk ⊢
 obtain ⟨t,ht,_,tsx,_⟩:=hk.head
 have kl:=hk.tail.left
 obtain ⟨te,hte,k1,k2,_⟩:=hk.tail.right.head
 have he:=endF_sym hte k1 (by rw [k2];decide)
 have hall:amHd L nx L.length=nx+1+(listKy (4,[59],0) (L.map armKE)).length:=by
  have:=lsHd_all (4,[59],0) (L.map armKE) (nx+1)
  rwa [List.length_map] at this
 have hend:nx+((4,[123],0) :: (listKy (4,[59],0) (L.map armKE)++[(4,[125],0)]):List Ky).length=amHd L nx L.length+1:=by
  rw [hall];simp only [List.length_cons,List.length_append,List.length_nil];omega
 rw [hend]
 have hsuc:∀ {kk:Nat} {x:Am},L[kk]?=some x→amHd L nx (kk+1)=(if kk=0 then nx+1 else amHd L nx kk+1)+(armKE x).length:=fun h=>lsHd_succ (am_at h)
 have hoS:∀ x∈L,okS x.1.1:=fun x hx=>by
  obtain ⟨j,hj⟩:=List.getElem?_of_mem hx
  cases j with
  | zero=>rw [h0 x hj];unfold okS retW maxLen;simp
  | succ j=>exact okS_v (h1 (j+1) x (by omega) hj)
 refine clauses_any b g go c ts nx dp t L (amHd L nx) w hp ht tsx (lsHd_0 _ _ _) hL hok.1 (fun x hx=>⟨hoS x hx,fun y hy=>okS_v (hn x hx y hy)⟩) (fun x hx=>⟨h0 x hx,?_⟩) (fun kk x hkk hx=>?_) (fun kk x hx w1 hg1 hp1=>?_) (fun kk h0' hkk=>?_) ⟨te,by rw [hall];exact hte,k2⟩
 ·have hka:=ls_at kl (am_at hx)
  rw [if_pos rfl,armKE_eq,h0 x hx,wk_k (show isKw retW=true by decide)] at hka
  obtain ⟨t1,ht1,q1,q2,_⟩:=hka.head
  exact ⟨t1,ht1,q2⟩
 ·have hka:=ls_at kl (am_at hx)
  rw [if_neg (by omega),armKE_eq,wk_v (h1 kk x hkk hx)] at hka
  obtain ⟨t1,ht1,q1,q2,_⟩:=hka.head
  exact ⟨t1,ht1,q1,q2⟩
 ·have hm:=List.mem_of_getElem? hx
  have hka:=ls_at kl (am_at hx)
  rw [armKE_eq] at hka
  have hl1:(armKE x).length=1+(x.1.2.map wk++((4,[45,62],0) :: atKE 0 x.2)).length:=by rw [armKE_eq,List.length_cons];omega
  have hen:=ls_end kl (.inr rfl) he (kk:=kk) (by rw [List.length_map];exact (List.getElem?_eq_some_iff.1 hx).1)
  have e2:=hsuc hx
  rw [hl1,← Nat.add_assoc] at e2
  have hen':EndF ts (amHd L nx (kk+1)):=hen
  rw [e2] at hen' ⊢
  exact armOf_read b g go c ts _ dp x.1.1 x.1.2 x.2 w1 hp1 hok hka.tail (hn x hm) (hR x hm) hd (hD x hm) hen'
 ·obtain ⟨t,ht,_,h2⟩:=ls_sep kl h0' (by rw [List.length_map];exact hkk)
  exact ⟨t,ht,h2⟩
abbrev Bh:=Ky × Ex
def behKE (L:List Bh):List Ky:=L.flatMap fun x=>x.1 :: atKE 0 x.2
def bhHd (L:List Bh)(nx kk:Nat):Nat:=nx+(behKE (L.take kk)).length
theorem bhHd_succ {L:List Bh}{nx kk:Nat}{x:Bh}(h:L[kk]?=some x):bhHd L nx (kk+1)=bhHd L nx kk+1+(atKE 0 x.2).length:=by
 unfold bhHd behKE
 rw [take_snoc h,List.flatMap_append]
 simp only [List.flatMap_cons,List.flatMap_nil,List.append_nil,List.length_append,List.length_cons]
 omega
theorem bh_at {ts:List Rt}{nx:Nat}{L:List Bh}(hk:KAt ts nx (behKE L)){kk:Nat}{x:Bh}(h:L[kk]?=some x):KAt ts (bhHd L nx kk) (x.1 :: atKE 0 x.2):=by
 have h1:=take_snoc h
 have hx:L=(L.take kk++[x])++L.drop (kk+1):=by rw [← h1,List.take_append_drop]
 have e:behKE L=behKE (L.take kk)++((x.1 :: atKE 0 x.2)++behKE (L.drop (kk+1))):=by
  rw [show behKE L=behKE ((L.take kk++[x])++L.drop (kk+1)) by rw [← hx]]
  unfold behKE
  simp only [List.flatMap_append,List.flatMap_cons,List.flatMap_nil,List.append_nil,List.append_assoc]
 rw [e] at hk
 exact hk.right.left
theorem beh_read {F:Prop}(L:List Bh)(b g go c:Nat)(ts:List Rt)(nx dp:Nat)(At:Option Addr)(ct:Nat)(w:World)(hp:PS w b g go c ts nx dp)(hok:TokOk ts)(hk:KAt ts nx (behKE L))(he:EndF ts (nx+(behKE L).length))(hL:L.length≤100000)(hR:∀ x∈L,RdX x.2)(hE:∀ kk x,L[kk+1]?=some x→x.1.1=1∧x.1.2.1∈endW)(hd:dp≤400)(hD:∀ x∈L,Dp F x.2 dp)
  (hT:NamesAt (fun x=>x≠b) w At (L.map fun x=>x.1.2.1)) :
  Calls Tryz.prog 58 #[.pointer (some ⟨b,0,none⟩),.slice At (L.map fun x=>x.1.2.1).length ct] w (OF F w b g go c ts (ListTo w b g go c ts (nx+(behKE L).length) dp (L.map (·.2)))):=by
 have hall:bhHd L nx (L.map (·.2)).length=nx+(behKE L).length:=by unfold bhHd;rw [List.length_map,List.take_length]
 rw [← hall]
 refine behindP_any b g go c ts nx dp (L.map fun x=>x.1.2.1) At ct (L.map (·.2)) (bhHd L nx) w hp hT (by rw [List.length_map,List.length_map]) (by simp [bhHd,behKE]) (by rw [List.length_map];exact hL) hok.1 (fun kk x hx=>?_) (fun kk e hx w1 hg1 hp1=>?_)
 ·rw [List.getElem?_map,Option.map_eq_some_iff] at hx
  obtain ⟨y,hy,rfl⟩:=hx
  obtain ⟨t,ht,_,h2,_⟩:=(bh_at hk hy).head
  exact ⟨t,ht,h2⟩
 ·rw [List.getElem?_map,Option.map_eq_some_iff] at hx
  obtain ⟨y,hy,rfl⟩:=hx
  have hm:=List.mem_of_getElem? hy
  rw [bhHd_succ hy]
  refine hR y hm F b g go c ts _ dp w1 hp1 hok (bh_at hk hy).tail ?_ hd (hD y hm)
  rw [← bhHd_succ hy]
  by_cases h1:kk+1 < L.length
  ·have hz:=List.getElem?_eq_getElem h1
   obtain ⟨t,ht,q1,q2,_⟩:=(bh_at hk hz).head
   obtain ⟨e1,e2⟩:=hE kk _ hz
   exact endF_kw ht (by rw [q1];exact e1) (by rw [q2];exact e2)
  ·have hl:=(List.getElem?_eq_some_iff.1 hy).1
   rw [show bhHd L nx (kk+1)=nx+(behKE L).length by unfold bhHd;rw [List.take_of_length_le (by omega)]]
   exact he
theorem Same.anti {P Q:Nat→Prop}{w w':World}(h:Same Q w w')(hp:∀ x,P x→Q x):Same P w w':=⟨h.1,fun b hb hl=>h.2 b (hp b hb) hl⟩
theorem res_handler {tmps:Array Value}{w:World}{g:Nat}{v0 v1 v2 v3 v4 v5 v6:Value}(h2:tmps.getD 4 undef=.pointer (some ⟨g,0,none⟩))(h:EB w g v0 v1 v2 v3 v4 v5 v6) :
  (results Tryz.f152 tmps).run Tryz.prog w=.ok (.agg #[v0,v1,v2,v3,v4,v5,v6]) w:=by
 have c0:=h.c0
 have c1:=h.c1
 have c2:=h.c2
 have c3:=h.c3
 have c4:=h.c4
 have c5:=h.c5
 have c6:=h.c6
 have h2':tmps[4]?.getD undef=.pointer (some ⟨g,0,none⟩):=by simpa using h2
 simp [results,Tryz.results152,go_sem,h2',c0,c1,c2,c3,c4,c5,c6]
set_option maxRecDepth 100000 in
set_option maxHeartbeats 2000000 in
theorem handler_any {F:Prop}(b g go c:Nat)(ts:List Rt)(nx nx1 nx2 dp:Nat)(k n:Int)(t:Rt)(An:Option Addr)(cn:Nat)(ns:List (List UInt8))(e0:Ex)(L:List Am)(w0 w:World)(h:PS w b g go c ts nx dp)(hg0:w0.grownBy w (some b))(hb0:b < w0.heap.size)(hok:okN k∧okN n)(hns:NamesAt (fun x=>w0.heap.size≤x) w An ns)(hcn:(ns.length≤cn∧cn≤maxLen)∧∀ x∈ns,okS x)(ht:ts[nx]?=some t)(hk:t.k=2)(hoS:okS t.s)(hlen:ts.length≤100000)
  (HX:Hid (∀ w',w0.grownBy w' (some b)→PS w' b g go c ts (nx+1) dp→Calls Tryz.prog 20 #[.pointer (some ⟨b,0,none⟩)] w' (OF F w' b g go c ts (ExprTo w' b g go c ts nx1 dp e0))))
  (HC:Hid (∀ w',w0.grownBy w' (some b)→PS w' b g go c ts nx1 dp→Calls Tryz.prog 160 #[.pointer (some ⟨b,0,none⟩)] w' (OF F w' b g go c ts (ArmsTo w' b g go c ts nx2 dp L)))) :
  Calls Tryz.prog 152 #[.pointer (some ⟨b,0,none⟩),.agg #[.int .i64 k,.int .i64 n,.string ⟨#[]⟩,.string ⟨#[]⟩,.slice An ns.length cn,.slice none 0 0,.slice none 0 0]] w (OF F w0 b g go c ts (ExprTo w0 b g go c ts nx2 dp (.mk k n t.s [] ns [e0] (L.map (·.1)) (L.map (·.2))))):=by
 have HU:=Lib.hid (fun w h=>upper_ok b g go c ts nx dp t w h ht hk hlen)
 have hbl:=h.blt
 have hgl:=h.lt
 have hz0:=hg0.size
 obtain ⟨S,hS⟩:∃ S,S=strB t.s:=⟨_,rfl⟩
 rw [← hS] at HU
 have HSe:=Lib.hid hS
 obtain ⟨NN,hNN⟩:∃ q,q=ns.length:=⟨_,rfl⟩
 have HNN:=Lib.hid hNN
 rw [← hNN]
 have HOk:=Lib.hid hok
 have HCn:=Lib.hid hcn
 have HOs:=Lib.hid hoS
 obtain ⟨W1,hW1⟩:∃ W1,(w.alloc (.cells #[.int .i64 k,.int .i64 n,.string ⟨#[]⟩,.string ⟨#[]⟩,.slice An NN cn,.slice none 0 0,.slice none 0 0] 27)).alloc (.cells #[.int .i64 0,.int .i64 0,.string ⟨#[]⟩,.string ⟨#[]⟩,.slice none 0 0,.slice none 0 0,.slice none 0 0] 27)=W1:=⟨_,rfl⟩
 have hg1:w.grownBy W1 none:=by rw [← hW1];exact grown_trans (World.grownBy_alloc _ _ _) (World.grownBy_alloc _ _ _)
 have hz1:W1.heap.size=w.heap.size+2:=by rw [← hW1];simp
 have HU1:Hid (EB W1 w.heap.size (.int .i64 k) (.int .i64 n) (.string ⟨#[]⟩) (.string ⟨#[]⟩) (.slice An NN cn) (.slice none 0 0) (.slice none 0 0)):=Lib.hid (by rw [← hW1];exact (EB.new w _ _ _ _ _ _ _).kept (World.grownBy_alloc _ _ none) (by simp))
 have HT1:Hid (EB W1 (w.heap.size+1) (.int .i64 0) (.int .i64 0) (.string ⟨#[]⟩) (.string ⟨#[]⟩) (.slice none 0 0) (.slice none 0 0) (.slice none 0 0)):=Lib.hid (by
  have:=EB.new (w.alloc (.cells #[.int .i64 k,.int .i64 n,.string ⟨#[]⟩,.string ⟨#[]⟩,.slice An NN cn,.slice none 0 0,.slice none 0 0] 27)) (.int .i64 0) (.int .i64 0) (.string ⟨#[]⟩) (.string ⟨#[]⟩) (.slice none 0 0) (.slice none 0 0) (.slice none 0 0)
  rw [hW1,World.size_alloc] at this;exact this)
 have H1:=Lib.hid (h.kept hg1 (by simp) (by simp))
 have HG1:Hid (w0.grownBy W1 (some b)):=Lib.hid (grown_trans hg0 (Below.grownBy' hg1))
 have HN1:Hid (NamesAt (fun x=>w0.heap.size≤x∧x < w.heap.size) W1 An ns):=Lib.hid (hns.tight.keep (Same.of_grown hg1 (fun _ _=>by simp)))
 clear h ht hk hlen hS hok hcn hoS hns hg0 hg1 hNN
 go_enter Tryz.func152,Tryz.ntmps152
 go_wp2_with fail
 clear hW1
 refine (HU.out _ H1.out).mono ?_
 rintro e w2 ⟨rfl,hw⟩
 have H2:=Lib.hid hw.1
 have HU2:=Lib.hid (HU1.out.kept hw.2 (by simp;omega))
 have HT2:=Lib.hid (HT1.out.kept hw.2 (by simp;omega))
 have HG2:=Lib.hid (grown_trans HG1.out hw.2)
 have HN2:=Lib.hid (HN1.out.keep (Same.of_grown hw.2 (fun x hx=>by simp;omega)))
 have hz2:w.heap.size+2≤w2.heap.size:=by have:=hw.2.size;omega
 have d2:=HU2.out.c2
 have s2':=HU2.out.fr 2
 clear hw
 go_wp2_with fail
 obtain ⟨W3,hW3⟩:∃ W3,w2.setCell ⟨w.heap.size,2,none⟩ (.string S)=W3:=⟨_,rfl⟩
 have hgs:w2.grownBy W3 (some w.heap.size):=by rw [← hW3];exact grown_set w2 ⟨w.heap.size,2,none⟩ _
 have HU3:Hid (EB W3 w.heap.size (.int .i64 k) (.int .i64 n) (.string S) (.string ⟨#[]⟩) (.slice An NN cn) (.slice none 0 0) (.slice none 0 0)):=Lib.hid (by
  have:=HU2.out
  rw [← hW3]
  unfold EB at this ⊢
  simp [World.setCell,Array.getElem?_modify,this])
 rw [hW3]
 have H3:=Lib.hid (H2.out.kept hgs (by simp;omega) (by simp;omega))
 have HT3:=Lib.hid (HT2.out.kept hgs (by simp))
 have HG3:Hid (w0.grownBy W3 (some b)):=Lib.hid (by rw [← hW3];exact grown_new HG2.out hz0 _)
 have HN3:=Lib.hid (HN2.out.keep (Same.of_grown hgs (fun x hx=>by simp;omega)))
 have hz3:W3.heap.size=w2.heap.size:=by rw [← hW3];simp [World.setCell]
 clear hW3 hgs d2 s2'
 refine (HX.out _ HG3.out H3.out).mono ?_
 rintro e w4 (⟨k',n',s',t',A0,n0,m0,A1,n1,m1,A2,n2,m2,rfl,hr,hw⟩ | ⟨hF,nxF,hnF,rfl,dpF,hpF,hgF⟩)
 rotate_left
 ·exact ⟨rfl,.inr ⟨hF,nxF,hnF,rfl,dpF,hpF,grown_trans HG3.out hgF⟩⟩
 have H4:=Lib.hid hw.1
 have HU4:=Lib.hid (HU3.out.kept hw.2 (by simp;omega))
 have HT4:=Lib.hid (HT3.out.kept hw.2 (by simp;omega))
 have HG4:=Lib.hid (grown_trans HG3.out hw.2)
 have HN4:=Lib.hid (HN3.out.keep (Same.of_grown hw.2 (fun x hx=>by simp;omega)))
 have HR4:=Lib.hid (hr.weaken (Q:=fun x=>w.heap.size+1 < x) (fun x hx=>by omega)).tight
 have hz4:w.heap.size+2≤w4.heap.size:=by have:=hw.2.size;omega
 have d5:=HU4.out.c5
 have s5:=HU4.out.fr 5
 have z1:w.heap.size < w4.heap.size:=by omega
 have z2:w.heap.size+1 < w4.heap.size:=by omega
 clear hw hr HX
 go_wp2_with fail
 obtain ⟨W5,hW5⟩:∃ W5,((w4.setCell ⟨w.heap.size,5,none⟩ (.slice (some ⟨w4.heap.size+1,0,none⟩) 1 1)).alloc (.cells #[.int .i64 k',.int .i64 n',.string s',.string t',.slice A0 n0 m0,.slice A1 n1 m1,.slice A2 n2 m2] 27)).alloc (.cells #[.int .i64 k',.int .i64 n',.string s',.string t',.slice A0 n0 m0,.slice A1 n1 m1,.slice A2 n2 m2] 27)=W5:=⟨_,rfl⟩
 have hgs:w4.grownBy (w4.setCell ⟨w.heap.size,5,none⟩ (.slice (some ⟨w4.heap.size+1,0,none⟩) 1 1)) (some w.heap.size):=grown_set w4 ⟨w.heap.size,5,none⟩ _
 have hg5:w4.grownBy W5 (some w.heap.size):=by rw [← hW5];exact grown_trans (grown_trans hgs (World.grownBy_alloc _ _ _)) (World.grownBy_alloc _ _ _)
 have hz5:W5.heap.size=w4.heap.size+2:=by rw [← hW5];simp [World.setCell]
 have HC5:Hid (CellsAt W5 (w4.heap.size+1) 0 [.int .i64 k',.int .i64 n',.string s',.string t',.slice A0 n0 m0,.slice A1 n1 m1,.slice A2 n2 m2]):=Lib.hid (by
  have:=cellsAt_new ((w4.setCell ⟨w.heap.size,5,none⟩ (.slice (some ⟨w4.heap.size+1,0,none⟩) 1 1)).alloc (.cells #[.int .i64 k',.int .i64 n',.string s',.string t',.slice A0 n0 m0,.slice A1 n1 m1,.slice A2 n2 m2] 27)) [.int .i64 k',.int .i64 n',.string s',.string t',.slice A0 n0 m0,.slice A1 n1 m1,.slice A2 n2 m2] 27
  have hz:((w4.setCell ⟨w.heap.size,5,none⟩ (.slice (some ⟨w4.heap.size+1,0,none⟩) 1 1)).alloc (.cells #[.int .i64 k',.int .i64 n',.string s',.string t',.slice A0 n0 m0,.slice A1 n1 m1,.slice A2 n2 m2] 27)).heap.size=w4.heap.size+1:=by simp [World.setCell]
  rw [hz] at this
  rw [← hW5]
  exact this)
 have HU5:Hid (EB W5 w.heap.size (.int .i64 k) (.int .i64 n) (.string S) (.string ⟨#[]⟩) (.slice An NN cn) (.slice (some ⟨w4.heap.size+1,0,none⟩) 1 1) (.slice none 0 0)):=Lib.hid (by
  have h5:EB (w4.setCell ⟨w.heap.size,5,none⟩ (.slice (some ⟨w4.heap.size+1,0,none⟩) 1 1)) w.heap.size (.int .i64 k) (.int .i64 n) (.string S) (.string ⟨#[]⟩) (.slice An NN cn) (.slice (some ⟨w4.heap.size+1,0,none⟩) 1 1) (.slice none 0 0):=by
   have:=HU4.out
   unfold EB at this ⊢
   simp [World.setCell,Array.getElem?_modify,this]
  rw [← hW5];exact (h5.kept (World.grownBy_alloc _ _ none) (by simp)).kept (World.grownBy_alloc _ _ none) (by simp))
 have H5:=Lib.hid (H4.out.kept hg5 (by simp;omega) (by simp;omega))
 have HT5:=Lib.hid (HT4.out.kept hg5 (by simp))
 have HG5:Hid (w0.grownBy W5 (some b)):=Lib.hid (by rw [← hW5];exact grown_trans (grown_trans (grown_new HG4.out hz0 _) (World.grownBy_alloc _ _ _)) (World.grownBy_alloc _ _ _))
 have HN5:=Lib.hid (HN4.out.keep (Same.of_grown hg5 (fun x hx=>by simp;omega)))
 have HR5:=Lib.hid (HR4.out.keep (Same.of_grown hg5 (fun x hx=>by simp;omega)))
 rw [hW5]
 clear hW5 hgs hg5 d5 s5
 refine (HC.out _ HG5.out H5.out).mono ?_
 rintro e w6 (⟨A,cap,rfl,hl,hcp,hw⟩ | ⟨hF,nxF,hnF,rfl,dpF,hpF,hgF⟩)
 rotate_left
 ·exact ⟨rfl,.inr ⟨hF,nxF,hnF,rfl,dpF,hpF,grown_trans HG5.out hgF⟩⟩
 obtain ⟨NL,hNL⟩:∃ NL,NL=L.length:=⟨_,rfl⟩
 rw [← hNL]
 have HNL:=Lib.hid hNL
 have H6:=Lib.hid hw.1
 have HU6:=Lib.hid (HU5.out.kept hw.2 (by simp;omega))
 have HT6:=Lib.hid (HT5.out.kept hw.2 (by simp;omega))
 have HG6:=Lib.hid (grown_trans HG5.out hw.2)
 have HN6:=Lib.hid (HN5.out.keep (Same.of_grown hw.2 (fun x hx=>by simp;omega)))
 have HR6:=Lib.hid (HR5.out.keep (Same.of_grown hw.2 (fun x hx=>by simp;omega)))
 have HC6:=Lib.hid (HC5.out.keep (P:=fun x=>x=w4.heap.size+1) rfl (by omega) (Same.of_grown hw.2 (fun x hx=>by simp;omega)))
 have HL6:=Lib.hid hl
 have HCp:=Lib.hid hcp
 have hz6:w4.heap.size+2≤w6.heap.size:=by have:=hw.2.size;omega
 have d0:=HU6.out.c0
 have df0:=HU6.out.fr 0
 have d1:=HU6.out.c1
 have df1:=HU6.out.fr 1
 have d2:=HU6.out.c2
 have df2:=HU6.out.fr 2
 have d3:=HU6.out.c3
 have df3:=HU6.out.fr 3
 have d4:=HU6.out.c4
 have df4:=HU6.out.fr 4
 have d5:=HU6.out.c5
 have df5:=HU6.out.fr 5
 have d6:=HU6.out.c6
 have df6:=HU6.out.fr 6
 have q0:=HT6.out.c0
 have qf0:=HT6.out.fr 0
 have q1:=HT6.out.c1
 have qf1:=HT6.out.fr 1
 have q2:=HT6.out.c2
 have qf2:=HT6.out.fr 2
 have q3:=HT6.out.c3
 have qf3:=HT6.out.fr 3
 have q4:=HT6.out.c4
 have qf4:=HT6.out.fr 4
 have q5:=HT6.out.c5
 have qf5:=HT6.out.fr 5
 have q6:=HT6.out.c6
 have qf6:=HT6.out.fr 6
 have y1:¬ w.heap.size=w.heap.size+1:=by omega
 have y2:¬ w.heap.size+1=w.heap.size:=by omega
 clear hw hl hcp hNL HC
 go_wp2_with fail
 have hgs6:w6.grownBy (w6.setCell ⟨w.heap.size,6,none⟩ (.slice A NL cap)) (some w.heap.size):=grown_set w6 ⟨w.heap.size,6,none⟩ _
 have hT7:=HT6.out.kept hgs6 (by simp)
 have hSf:Same (fun x=>x≠w.heap.size∧x≠w.heap.size+1) w6 (set7 (w6.setCell ⟨w.heap.size,6,none⟩ (.slice A NL cap)) (w.heap.size+1) (.int .i64 k) (.int .i64 n) (.string S) (.string ⟨#[]⟩) (.slice An NN cn) (.slice (some ⟨w4.heap.size+1,0,none⟩) 1 1) (.slice A NL cap)) :=
  (Same.of_grown hgs6 (fun x hx=>by simpa using hx.1)).trans (Same.of_grown (set7_grown _ _ _ _ _ _ _ _ _) (fun x hx=>by simpa using hx.2))
 refine bodyPost_retF (res_handler rfl (hT7.all _ _ _ _ _ _ _)) rfl ⟨k,n,S,⟨#[]⟩,An,NN,cn,some ⟨w4.heap.size+1,0,none⟩,1,1,A,NL,cap,rfl,?_,?_,?_⟩
 ·refine ⟨An,cn,some ⟨w4.heap.size+1,0,none⟩,1,A,cap,by rw [HSe.out,HNN.out,HNL.out];simp only [exCells,List.length_map];rfl,⟨HOk.out.1,HOk.out.2,HOs.out,okS_nil,HCn.out.2,HCn.out.1,⟨Nat.le_refl _,by unfold maxLen;omega⟩,by simpa using HCp.out⟩,?_,fun _=>?_,fun hb=>?_,by simp⟩
  ·exact ((HN6.out.weaken (Q:=fun x=>(x≠w.heap.size∧x≠w.heap.size+1)∧w0.heap.size≤x) (fun x hx=>⟨⟨by omega,by omega⟩,hx.1⟩)).keep (hSf.anti (fun x hx=>hx.1))).weaken (fun x hx=>hx.2)
  ·refine ⟨w4.heap.size+1,0,rfl,by omega,Nat.lt_of_lt_of_le (by omega) hSf.1,⟨_,rfl,HC6.out.keep (P:=fun x=>x≠w.heap.size∧x≠w.heap.size+1) ⟨by omega,by omega⟩ (by omega) hSf,?_⟩,trivial⟩
   exact ((HR6.out.weaken (Q:=fun x=>(x≠w.heap.size∧x≠w.heap.size+1)∧w0.heap.size≤x) (fun x hx=>⟨⟨by omega,by omega⟩,by omega⟩)).keep (hSf.anti (fun x hx=>hx.1))).weaken (fun x hx=>hx.2)
  ·obtain ⟨x,off,e,h1,h2,h3⟩:=HL6.out (by intro h;subst h;exact hb rfl)
   exact ⟨x,off,e,by omega,Nat.lt_of_lt_of_le h2 hSf.1,(RepA.keep (hSf.anti (P:=fun x=>(x≠w.heap.size∧x≠w.heap.size+1)∧w0.heap.size≤x) (fun x hx=>hx.1)) ⟨⟨by omega,by omega⟩,by omega⟩ h2 (h3.weaken (fun y hy=>⟨⟨by omega,by omega⟩,by omega⟩))).weaken (fun y hy=>hy.2)⟩
 ·exact (H6.out.kept hgs6 (by simp;omega) (by simp;omega)).kept (set7_grown _ _ _ _ _ _ _ _ _) (by simp;omega) (by simp;omega)
 ·exact grown_7 (grown_new HG6.out hz0 _) (by omega) _ _ _ _ _ _ _
set_option maxRecDepth 100000 in
set_option maxHeartbeats 2000000 in
theorem enc_handle {F:Prop}(b g go c:Nat)(ts:List Rt)(nx nx1 dp:Nat)(t:Rt)(ex:Ex)(w:World)(h:PS w b g go c ts nx dp)(ht:ts[nx]?=some t)(hs:t.s=[104,97,110,100,108,101])(hlen:ts.length≤100000)
  (HH:Hid (∀ w',w.grownBy w' (some b)→PS w' b g go c ts (nx+1) dp→Calls Tryz.prog 152 #[.pointer (some ⟨b,0,none⟩),.agg #[.int .i64 14,.int .i64 0,.string ⟨#[]⟩,.string ⟨#[]⟩,.slice none 0 0,.slice none 0 0,.slice none 0 0]] w' (OF F w' b g go c ts (ExprTo w' b g go c ts nx1 dp ex)))) :
  Calls Tryz.prog 143 #[.pointer (some ⟨b,0,none⟩)] w (OF F w b g go c ts (ExprTo w b g go c ts nx1 dp ex)):=by
 have HS0:=Lib.hid (fun w h=>skip_no b g go c ts nx dp t ⟨#[116,114,117,101]⟩ w h ht (by rw [hs];decide))
 have HS1:=Lib.hid (fun w h=>skip_no b g go c ts nx dp t ⟨#[102,97,108,115,101]⟩ w h ht (by rw [hs];decide))
 have HS2:=Lib.hid (fun w h=>skip_no b g go c ts nx dp t ⟨#[109,97,116,99,104]⟩ w h ht (by rw [hs];decide))
 have HY:=Lib.hid (fun w h=>skip_yes b g go c ts nx dp t ⟨#[104,97,110,100,108,101]⟩ w h ht hs hlen)
 have H:=Lib.hid h
 have hbl:=h.blt
 have hgl:=h.lt
 clear h ht hs hlen
 go_enter Tryz.func143,Tryz.ntmps143
 go_wp2_with fail
 have H0:=Lib.hid (H.out.below (WH0_below w))
 have HE0:=Lib.hid (WH0_E w)
 have HG0:=Lib.hid (grown_below (WH0_below w) (some b))
 refine (HS0.out _ H0.out).mono ?_
 rintro e w1 ⟨rfl,hb⟩
 have H1:=Lib.hid (H0.out.below hb)
 have HE1:=Lib.hid (HE0.out.kept (grown_below hb none) (by simp))
 have HG1:=Lib.hid (grown_trans HG0.out (grown_below hb _))
 have hz1:w.heap.size < w1.heap.size:=HE1.out.lt
 clear hb
 go_wp2_with fail
 refine (HS1.out _ H1.out).mono ?_
 rintro e w2 ⟨rfl,hb⟩
 have H2:=Lib.hid (H1.out.below hb)
 have HE2:=Lib.hid (HE1.out.kept (grown_below hb none) (by simp))
 have HG2:=Lib.hid (grown_trans HG1.out (grown_below hb _))
 have hz2:w.heap.size < w2.heap.size:=HE2.out.lt
 clear hb
 go_wp2_with fail
 refine (HS2.out _ H2.out).mono ?_
 rintro e w3 ⟨rfl,hb⟩
 have H3:=Lib.hid (H2.out.below hb)
 have HE3:=Lib.hid (HE2.out.kept (grown_below hb none) (by simp))
 have HG3:=Lib.hid (grown_trans HG2.out (grown_below hb _))
 have hz3:w.heap.size < w3.heap.size:=HE3.out.lt
 clear hb
 go_wp2_with fail
 refine (HY.out _ H3.out).mono ?_
 rintro e u1 ⟨rfl,hw⟩
 have K1:=Lib.hid hw.1
 have HEa:=Lib.hid (HE3.out.kept hw.2 (by simp;omega))
 have HGa:=Lib.hid (grown_trans HG3.out hw.2)
 have hza:w.heap.size < u1.heap.size:=HEa.out.lt
 clear hw
 go_wp2_with fail
 refine (HH.out _ HGa.out (K1.out)).mono ?_
 rintro e u2 (⟨k,n,s,u,A0,n0,m0,A1,n1,m1,A2,n2,m2,rfl,hr,hw⟩ | ⟨hF,nxF,hnF,rfl,dpF,hpF,hgF⟩)
 rotate_left
 ·exact ⟨rfl,.inr ⟨hF,nxF,hnF,rfl,dpF,hpF,grown_trans HGa.out hgF⟩⟩
 have HR:=Lib.hid hr
 have K2:=Lib.hid hw.1
 have HEb:=Lib.hid (HEa.out.kept hw.2 (by simp;omega))
 have HGb:=Lib.hid (grown_trans HGa.out hw.2)
 have hzb:w.heap.size < u2.heap.size:=HEb.out.lt
 have e0:=HEb.out.c0
 have r0:=HEb.out.fr 0
 have e1:=HEb.out.c1
 have r1:=HEb.out.fr 1
 have e2:=HEb.out.c2
 have r2:=HEb.out.fr 2
 have e3:=HEb.out.c3
 have r3:=HEb.out.fr 3
 have e4:=HEb.out.c4
 have r4:=HEb.out.fr 4
 have e5:=HEb.out.c5
 have r5:=HEb.out.fr 5
 have e6:=HEb.out.c6
 have r6:=HEb.out.fr 6
 clear hw hr
 go_wp2_with fail
 exact bodyPost_retF (res_enc rfl (HEb.out.all _ _ _ _ _ _ _)) rfl ⟨k,n,s,u,A0,n0,m0,A1,n1,m1,A2,n2,m2,rfl,(HR.out.keep (Same.of_grown (set7_grown _ _ _ _ _ _ _ _ _) (fun x hx=>by simp;omega))).weaken (fun x hx=>by omega),K2.out.kept (set7_grown _ _ _ _ _ _ _ _ _) (by simp;omega) (by simp;omega),grown_7 HGb.out (Nat.le_refl _) _ _ _ _ _ _ _⟩
set_option maxRecDepth 100000 in
set_option maxHeartbeats 2000000 in
theorem enc_shallow {F:Prop}(b g go c:Nat)(ts:List Rt)(nx nx1 dp:Nat)(t:Rt)(ex:Ex)(w:World)(h:PS w b g go c ts nx dp)(ht:ts[nx]?=some t)(hs:t.s=[115,104,97,108,108,111,119])(hlen:ts.length≤100000)
  (HH:Hid (∀ w',w.grownBy w' (some b)→PS w' b g go c ts (nx+1) dp→Calls Tryz.prog 152 #[.pointer (some ⟨b,0,none⟩),.agg #[.int .i64 14,.int .i64 1,.string ⟨#[]⟩,.string ⟨#[]⟩,.slice none 0 0,.slice none 0 0,.slice none 0 0]] w' (OF F w' b g go c ts (ExprTo w' b g go c ts nx1 dp ex)))) :
  Calls Tryz.prog 143 #[.pointer (some ⟨b,0,none⟩)] w (OF F w b g go c ts (ExprTo w b g go c ts nx1 dp ex)):=by
 have HS0:=Lib.hid (fun w h=>skip_no b g go c ts nx dp t ⟨#[116,114,117,101]⟩ w h ht (by rw [hs];decide))
 have HS1:=Lib.hid (fun w h=>skip_no b g go c ts nx dp t ⟨#[102,97,108,115,101]⟩ w h ht (by rw [hs];decide))
 have HS2:=Lib.hid (fun w h=>skip_no b g go c ts nx dp t ⟨#[109,97,116,99,104]⟩ w h ht (by rw [hs];decide))
 have HS3:=Lib.hid (fun w h=>skip_no b g go c ts nx dp t ⟨#[104,97,110,100,108,101]⟩ w h ht (by rw [hs];decide))
 have HY:=Lib.hid (fun w h=>skip_yes b g go c ts nx dp t ⟨#[115,104,97,108,108,111,119]⟩ w h ht hs hlen)
 have H:=Lib.hid h
 have hbl:=h.blt
 have hgl:=h.lt
 clear h ht hs hlen
 go_enter Tryz.func143,Tryz.ntmps143
 go_wp2_with fail
 have H0:=Lib.hid (H.out.below (WH0_below w))
 have HE0:=Lib.hid (WH0_E w)
 have HG0:=Lib.hid (grown_below (WH0_below w) (some b))
 refine (HS0.out _ H0.out).mono ?_
 rintro e w1 ⟨rfl,hb⟩
 have H1:=Lib.hid (H0.out.below hb)
 have HE1:=Lib.hid (HE0.out.kept (grown_below hb none) (by simp))
 have HG1:=Lib.hid (grown_trans HG0.out (grown_below hb _))
 have hz1:w.heap.size < w1.heap.size:=HE1.out.lt
 clear hb
 go_wp2_with fail
 refine (HS1.out _ H1.out).mono ?_
 rintro e w2 ⟨rfl,hb⟩
 have H2:=Lib.hid (H1.out.below hb)
 have HE2:=Lib.hid (HE1.out.kept (grown_below hb none) (by simp))
 have HG2:=Lib.hid (grown_trans HG1.out (grown_below hb _))
 have hz2:w.heap.size < w2.heap.size:=HE2.out.lt
 clear hb
 go_wp2_with fail
 refine (HS2.out _ H2.out).mono ?_
 rintro e w3 ⟨rfl,hb⟩
 have H3:=Lib.hid (H2.out.below hb)
 have HE3:=Lib.hid (HE2.out.kept (grown_below hb none) (by simp))
 have HG3:=Lib.hid (grown_trans HG2.out (grown_below hb _))
 have hz3:w.heap.size < w3.heap.size:=HE3.out.lt
 clear hb
 go_wp2_with fail
 refine (HS3.out _ H3.out).mono ?_
 rintro e w4 ⟨rfl,hb⟩
 have H4:=Lib.hid (H3.out.below hb)
 have HE4:=Lib.hid (HE3.out.kept (grown_below hb none) (by simp))
 have HG4:=Lib.hid (grown_trans HG3.out (grown_below hb _))
 have hz4:w.heap.size < w4.heap.size:=HE4.out.lt
 clear hb
 go_wp2_with fail
 refine (HY.out _ H4.out).mono ?_
 rintro e u1 ⟨rfl,hw⟩
 have K1:=Lib.hid hw.1
 have HEa:=Lib.hid (HE4.out.kept hw.2 (by simp;omega))
 have HGa:=Lib.hid (grown_trans HG4.out hw.2)
 have hza:w.heap.size < u1.heap.size:=HEa.out.lt
 clear hw
 go_wp2_with fail
 refine (HH.out _ HGa.out (K1.out)).mono ?_
 rintro e u2 (⟨k,n,s,u,A0,n0,m0,A1,n1,m1,A2,n2,m2,rfl,hr,hw⟩ | ⟨hF,nxF,hnF,rfl,dpF,hpF,hgF⟩)
 rotate_left
 ·exact ⟨rfl,.inr ⟨hF,nxF,hnF,rfl,dpF,hpF,grown_trans HGa.out hgF⟩⟩
 have HR:=Lib.hid hr
 have K2:=Lib.hid hw.1
 have HEb:=Lib.hid (HEa.out.kept hw.2 (by simp;omega))
 have HGb:=Lib.hid (grown_trans HGa.out hw.2)
 have hzb:w.heap.size < u2.heap.size:=HEb.out.lt
 have e0:=HEb.out.c0
 have r0:=HEb.out.fr 0
 have e1:=HEb.out.c1
 have r1:=HEb.out.fr 1
 have e2:=HEb.out.c2
 have r2:=HEb.out.fr 2
 have e3:=HEb.out.c3
 have r3:=HEb.out.fr 3
 have e4:=HEb.out.c4
 have r4:=HEb.out.fr 4
 have e5:=HEb.out.c5
 have r5:=HEb.out.fr 5
 have e6:=HEb.out.c6
 have r6:=HEb.out.fr 6
 clear hw hr
 go_wp2_with fail
 exact bodyPost_retF (res_enc rfl (HEb.out.all _ _ _ _ _ _ _)) rfl ⟨k,n,s,u,A0,n0,m0,A1,n1,m1,A2,n2,m2,rfl,(HR.out.keep (Same.of_grown (set7_grown _ _ _ _ _ _ _ _ _) (fun x hx=>by simp;omega))).weaken (fun x hx=>by omega),K2.out.kept (set7_grown _ _ _ _ _ _ _ _ _) (by simp;omega) (by simp;omega),grown_7 HGb.out (Nat.le_refl _) _ _ _ _ _ _ _⟩
theorem toks_one (w:World)(S:List UInt8)(ty:Nat):NamesAt (fun x=>x=w.heap.size) (w.alloc (.cells #[.string (strB S)] ty)) (some ⟨w.heap.size,0,none⟩) [S]:=fun _=>by
 refine ⟨w.heap.size,0,rfl,rfl,by simp,fun j x hj=>?_⟩
 match j,hj with
 | 0,hj =>
  simp at hj;subst hj
  exact cell_of_row _ _ 0 _ _ (0,0) (heap_alloc_new w _)
 | j+1,hj=>simp at hj
set_option maxRecDepth 100000 in
set_option maxHeartbeats 2000000 in
theorem enc_named {F:Prop}(b g go c:Nat)(ts:List Rt)(nx nx1 dp:Nat)(t t1:Rt)(ex:Ex)(w:World)(h:PS w b g go c ts nx dp)(ht:ts[nx]?=some t)(hs:t.s=[110,97,109,101,100])(ht1:ts[nx+1]?=some t1)(hk1:t1.k=0)(hlen:ts.length≤100000)
  (HH:Hid (∀ w0 w' z,w.grownBy w0 (some b)→w0.grownBy w' (some b)→b < w0.heap.size→PS w' b g go c ts (nx+1+1) dp→NamesAt (fun x=>w0.heap.size≤x) w' (some ⟨z,0,none⟩) [t1.s]→Calls Tryz.prog 152 #[.pointer (some ⟨b,0,none⟩),.agg #[.int .i64 15,.int .i64 0,.string ⟨#[]⟩,.string ⟨#[]⟩,.slice (some ⟨z,0,none⟩) 1 1,.slice none 0 0,.slice none 0 0]] w' (OF F w0 b g go c ts (ExprTo w0 b g go c ts nx1 dp ex)))) :
  Calls Tryz.prog 143 #[.pointer (some ⟨b,0,none⟩)] w (OF F w b g go c ts (ExprTo w b g go c ts nx1 dp ex)):=by
 have HS0:=Lib.hid (fun w h=>skip_no b g go c ts nx dp t ⟨#[116,114,117,101]⟩ w h ht (by rw [hs];decide))
 have HS1:=Lib.hid (fun w h=>skip_no b g go c ts nx dp t ⟨#[102,97,108,115,101]⟩ w h ht (by rw [hs];decide))
 have HS2:=Lib.hid (fun w h=>skip_no b g go c ts nx dp t ⟨#[109,97,116,99,104]⟩ w h ht (by rw [hs];decide))
 have HS3:=Lib.hid (fun w h=>skip_no b g go c ts nx dp t ⟨#[104,97,110,100,108,101]⟩ w h ht (by rw [hs];decide))
 have HS4:=Lib.hid (fun w h=>skip_no b g go c ts nx dp t ⟨#[115,104,97,108,108,111,119]⟩ w h ht (by rw [hs];decide))
 have HY:=Lib.hid (fun w h=>skip_yes b g go c ts nx dp t ⟨#[110,97,109,101,100]⟩ w h ht hs hlen)
 have HL:=Lib.hid (fun w h=>lower_ok b g go c ts (nx+1) dp t1 w h ht1 hk1 hlen)
 have H:=Lib.hid h
 have hbl:=h.blt
 have hgl:=h.lt
 obtain ⟨S,hS⟩:∃ S,S=strB t1.s:=⟨_,rfl⟩
 rw [← hS] at HL
 have HSe:=Lib.hid hS
 clear h ht hs hlen ht1 hk1 hS
 go_enter Tryz.func143,Tryz.ntmps143
 go_wp2_with fail
 have H0:=Lib.hid (H.out.below (WH0_below w))
 have HE0:=Lib.hid (WH0_E w)
 have HG0:=Lib.hid (grown_below (WH0_below w) (some b))
 refine (HS0.out _ H0.out).mono ?_
 rintro e w1 ⟨rfl,hb⟩
 have H1:=Lib.hid (H0.out.below hb)
 have HE1:=Lib.hid (HE0.out.kept (grown_below hb none) (by simp))
 have HG1:=Lib.hid (grown_trans HG0.out (grown_below hb _))
 have hz1:w.heap.size < w1.heap.size:=HE1.out.lt
 clear hb
 go_wp2_with fail
 refine (HS1.out _ H1.out).mono ?_
 rintro e w2 ⟨rfl,hb⟩
 have H2:=Lib.hid (H1.out.below hb)
 have HE2:=Lib.hid (HE1.out.kept (grown_below hb none) (by simp))
 have HG2:=Lib.hid (grown_trans HG1.out (grown_below hb _))
 have hz2:w.heap.size < w2.heap.size:=HE2.out.lt
 clear hb
 go_wp2_with fail
 refine (HS2.out _ H2.out).mono ?_
 rintro e w3 ⟨rfl,hb⟩
 have H3:=Lib.hid (H2.out.below hb)
 have HE3:=Lib.hid (HE2.out.kept (grown_below hb none) (by simp))
 have HG3:=Lib.hid (grown_trans HG2.out (grown_below hb _))
 have hz3:w.heap.size < w3.heap.size:=HE3.out.lt
 clear hb
 go_wp2_with fail
 refine (HS3.out _ H3.out).mono ?_
 rintro e w4 ⟨rfl,hb⟩
 have H4:=Lib.hid (H3.out.below hb)
 have HE4:=Lib.hid (HE3.out.kept (grown_below hb none) (by simp))
 have HG4:=Lib.hid (grown_trans HG3.out (grown_below hb _))
 have hz4:w.heap.size < w4.heap.size:=HE4.out.lt
 clear hb
 go_wp2_with fail
 refine (HS4.out _ H4.out).mono ?_
 rintro e w5 ⟨rfl,hb⟩
 have H5:=Lib.hid (H4.out.below hb)
 have HE5:=Lib.hid (HE4.out.kept (grown_below hb none) (by simp))
 have HG5:=Lib.hid (grown_trans HG4.out (grown_below hb _))
 have hz5:w.heap.size < w5.heap.size:=HE5.out.lt
 clear hb
 go_wp2_with fail
 refine (HY.out _ H5.out).mono ?_
 rintro e u1 ⟨rfl,hw⟩
 have K1:=Lib.hid hw.1
 have HEa:=Lib.hid (HE5.out.kept hw.2 (by simp;omega))
 have HGa:=Lib.hid (grown_trans HG5.out hw.2)
 have hza:w.heap.size < u1.heap.size:=HEa.out.lt
 clear hw
 go_wp2_with fail
 refine (HL.out _ K1.out).mono ?_
 rintro e u3 ⟨rfl,hw⟩
 have K3:=Lib.hid hw.1
 have HW3:=Lib.hid hw.2
 have hz3:=hw.2.size
 clear hw
 go_wp2_with fail
 obtain ⟨W4,hW4⟩:∃ W4,u3.alloc (.cells #[.string S] 9)=W4:=⟨_,rfl⟩
 have hg4:u3.grownBy W4 none:=by rw [← hW4];exact World.grownBy_alloc _ _ _
 have HN4:Hid (NamesAt (fun x=>x=u3.heap.size) W4 (some ⟨u3.heap.size,0,none⟩) [t1.s]):=Lib.hid (by rw [← hW4,HSe.out];exact toks_one u3 _ _)
 rw [hW4]
 refine (HH.out u1 W4 u3.heap.size HGa.out (grown_trans HW3.out (Below.grownBy' hg4)) (by omega) (K3.out.kept hg4 (by simp) (by simp)) (HN4.out.weaken (fun x hx=>by omega))).mono ?_
 rintro e u2 (⟨k,n,s,u,A0,n0,m0,A1,n1,m1,A2,n2,m2,rfl,hr,hw⟩ | ⟨hF,nxF,hnF,rfl,dpF,hpF,hgF⟩)
 rotate_left
 ·exact ⟨rfl,.inr ⟨hF,nxF,hnF,rfl,dpF,hpF,grown_trans HGa.out hgF⟩⟩
 clear hW4 hg4
 have HR:=Lib.hid hr
 have K2:=Lib.hid hw.1
 have HEb:=Lib.hid (HEa.out.kept hw.2 (by simp;omega))
 have HGb:=Lib.hid (grown_trans HGa.out hw.2)
 have hzb:w.heap.size < u2.heap.size:=HEb.out.lt
 have e0:=HEb.out.c0
 have r0:=HEb.out.fr 0
 have e1:=HEb.out.c1
 have r1:=HEb.out.fr 1
 have e2:=HEb.out.c2
 have r2:=HEb.out.fr 2
 have e3:=HEb.out.c3
 have r3:=HEb.out.fr 3
 have e4:=HEb.out.c4
 have r4:=HEb.out.fr 4
 have e5:=HEb.out.c5
 have r5:=HEb.out.fr 5
 have e6:=HEb.out.c6
 have r6:=HEb.out.fr 6
 clear hw hr
 go_wp2_with fail
 exact bodyPost_retF (res_enc rfl (HEb.out.all _ _ _ _ _ _ _)) rfl ⟨k,n,s,u,A0,n0,m0,A1,n1,m1,A2,n2,m2,rfl,(HR.out.keep (Same.of_grown (set7_grown _ _ _ _ _ _ _ _ _) (fun x hx=>by simp;omega))).weaken (fun x hx=>by omega),K2.out.kept (set7_grown _ _ _ _ _ _ _ _ _) (by simp;omega) (by simp;omega),grown_7 HGb.out (Nat.le_refl _) _ _ _ _ _ _ _⟩
set_option maxRecDepth 100000 in
set_option maxHeartbeats 2000000 in
theorem enc_match {F:Prop}(b g go c:Nat)(ts:List Rt)(nx nx1 nx2 dp:Nat)(t:Rt)(e0:Ex)(L:List Am)(w:World)(h:PS w b g go c ts nx dp)(ht:ts[nx]?=some t)(hs:t.s=[109,97,116,99,104])(hlen:ts.length≤100000)
  (HX:Hid (∀ w',w.grownBy w' (some b)→PS w' b g go c ts (nx+1) dp→Calls Tryz.prog 20 #[.pointer (some ⟨b,0,none⟩)] w' (OF F w' b g go c ts (ExprTo w' b g go c ts nx1 dp e0))))
  (HI:Hid (∀ w',w.grownBy w' (some b)→PS w' b g go c ts nx1 dp→Calls Tryz.prog 150 #[.pointer (some ⟨b,0,none⟩),.func (.func 151) #[.pointer (some ⟨b,0,none⟩)] #[]] w' (OF F w' b g go c ts (ArmsTo w' b g go c ts nx2 dp L)))) :
  Calls Tryz.prog 143 #[.pointer (some ⟨b,0,none⟩)] w (OF F w b g go c ts (ExprTo w b g go c ts nx2 dp (.mk 11 0 [] [] [] [e0] (L.map (·.1)) (L.map (·.2))))):=by
 have HS0:=Lib.hid (fun w h=>skip_no b g go c ts nx dp t ⟨#[116,114,117,101]⟩ w h ht (by rw [hs];decide))
 have HS1:=Lib.hid (fun w h=>skip_no b g go c ts nx dp t ⟨#[102,97,108,115,101]⟩ w h ht (by rw [hs];decide))
 have HY:=Lib.hid (fun w h=>skip_yes b g go c ts nx dp t ⟨#[109,97,116,99,104]⟩ w h ht hs hlen)
 have hmf:∀ (fn:Fn) (first cap:Array Value) (w:World),(Instr.makeFunc fn first cap).run Tryz.prog w=.ok (.func fn first cap) w:=fun _ _ _ _=>rfl
 have H:=Lib.hid h
 have hbl:=h.blt
 have hgl:=h.lt
 clear h ht hs hlen
 go_enter Tryz.func143,Tryz.ntmps143
 go_wp2_with fail
 have H0:=Lib.hid (H.out.below (WH0_below w))
 have HE0:=Lib.hid (WH0_E w)
 have HG0:=Lib.hid (grown_below (WH0_below w) (some b))
 refine (HS0.out _ H0.out).mono ?_
 rintro e w1 ⟨rfl,hb⟩
 have H1:=Lib.hid (H0.out.below hb)
 have HE1:=Lib.hid (HE0.out.kept (grown_below hb none) (by simp))
 have HG1:=Lib.hid (grown_trans HG0.out (grown_below hb _))
 have hz1:w.heap.size < w1.heap.size:=HE1.out.lt
 clear hb
 go_wp2_with fail
 refine (HS1.out _ H1.out).mono ?_
 rintro e w2 ⟨rfl,hb⟩
 have H2:=Lib.hid (H1.out.below hb)
 have HE2:=Lib.hid (HE1.out.kept (grown_below hb none) (by simp))
 have HG2:=Lib.hid (grown_trans HG1.out (grown_below hb _))
 have hz2:w.heap.size < w2.heap.size:=HE2.out.lt
 clear hb
 go_wp2_with fail
 refine (HY.out _ H2.out).mono ?_
 rintro e u1 ⟨rfl,hw⟩
 have K1:=Lib.hid hw.1
 have HEa:=Lib.hid (HE2.out.kept hw.2 (by simp;omega))
 have HGa:=Lib.hid (grown_trans HG2.out hw.2)
 have hza:w.heap.size < u1.heap.size:=HEa.out.lt
 clear hw
 go_wp2_with fail
 refine (HX.out _ HGa.out K1.out).mono ?_
 rintro e u2 (⟨k',n',s',t',A0,n0,m0,A1,n1,m1,A2,n2,m2,rfl,hr,hw⟩ | ⟨hF,nxF,hnF,rfl,dpF,hpF,hgF⟩)
 rotate_left
 ·exact ⟨rfl,.inr ⟨hF,nxF,hnF,rfl,dpF,hpF,grown_trans HGa.out hgF⟩⟩
 have K2:=Lib.hid hw.1
 have HE2':=Lib.hid (HEa.out.kept hw.2 (by simp;omega))
 have HG2':=Lib.hid (grown_trans HGa.out hw.2)
 have HR2:=Lib.hid (hr.weaken (Q:=fun x=>w.heap.size < x) (fun x hx=>by omega)).tight
 have hzu:w.heap.size < u2.heap.size:=HE2'.out.lt
 clear hw hr HX
 go_wp2_with fail
 obtain ⟨X,hX⟩:∃ X,(u2.alloc (.cells #[.int .i64 k',.int .i64 n',.string s',.string t',.slice A0 n0 m0,.slice A1 n1 m1,.slice A2 n2 m2] 27)).drew=X:=⟨_,rfl⟩
 have hgx:u2.grownBy X none:=by rw [← hX];exact grown_trans (World.grownBy_alloc _ _ _) (grown_drewN _ 1 none)
 have HBx:Hid (EB X u2.heap.size (.int .i64 k') (.int .i64 n') (.string s') (.string t') (.slice A0 n0 m0) (.slice A1 n1 m1) (.slice A2 n2 m2)):=Lib.hid (by rw [← hX];exact (EB.new u2 _ _ _ _ _ _ _).kept (grown_drewN _ 1 none) (by simp))
 have hzx:X.heap.size=u2.heap.size+1:=by rw [← hX];simp [World.drew]
 have Kx:=Lib.hid (K2.out.kept hgx (by simp) (by simp))
 have HEx:=Lib.hid (HE2'.out.kept hgx (by simp))
 have HGx:=Lib.hid (grown_trans HG2'.out (Below.grownBy' hgx))
 have HRx:=Lib.hid (HR2.out.keep (Same.of_grown hgx (fun _ _=>by simp)))
 clear hgx
 have HAll:Hid (∀ w',EB w' u2.heap.size (.int .i64 k') (.int .i64 n') (.string s') (.string t') (.slice A0 n0 m0) (.slice A1 n1 m1) (.slice A2 n2 m2)→w'.cell? ⟨u2.heap.size,0,none⟩=some (.int .i64 k')∧w'.cell? ⟨u2.heap.size,1,none⟩=some (.int .i64 n')∧w'.cell? ⟨u2.heap.size,2,none⟩=some (.string s')∧w'.cell? ⟨u2.heap.size,3,none⟩=some (.string t')∧w'.cell? ⟨u2.heap.size,4,none⟩=some (.slice A0 n0 m0)∧w'.cell? ⟨u2.heap.size,5,none⟩=some (.slice A1 n1 m1)∧w'.cell? ⟨u2.heap.size,6,none⟩=some (.slice A2 n2 m2)):=Lib.hid (fun w' h=>⟨h.c0,h.c1,h.c2,h.c3,h.c4,h.c5,h.c6⟩)
 refine wp_region_held_drew (S:=fun w'=>w'.cell? ⟨u2.heap.size,0,none⟩=some (.int .i64 k')∧w'.cell? ⟨u2.heap.size,1,none⟩=some (.int .i64 n')∧w'.cell? ⟨u2.heap.size,2,none⟩=some (.string s')∧w'.cell? ⟨u2.heap.size,3,none⟩=some (.string t')∧w'.cell? ⟨u2.heap.size,4,none⟩=some (.slice A0 n0 m0)∧w'.cell? ⟨u2.heap.size,5,none⟩=some (.slice A1 n1 m1)∧w'.cell? ⟨u2.heap.size,6,none⟩=some (.slice A2 n2 m2)) (by kernel_rfl) (by rw [hX];exact HAll.out _ HBx.out) (fun hHeld=>?_)
 rw [hX] at hHeld ⊢
 clear hX
 refine takeG (i:=0) (d:=24) (v:=(.agg #[.int .i64 k',.int .i64 n',.string s',.string t',.slice A0 n0 m0,.slice A1 n1 m1,.slice A2 n2 m2])) rfl rfl (by kernel_rfl) (by kernel_rfl) (by kernel_rfl) (fun _ _ _ h=>h) (Or.inl ⟨by kernel_rfl,fun w hSw=>(by (try dsimp only at hSw);go_simp)⟩) hHeld ?_
 refine takeG (i:=2) (d:=26) (v:=(.pointer (some ⟨b,0,none⟩))) rfl rfl (by kernel_rfl) (by kernel_rfl) (by kernel_rfl) (fun _ _ _ h=>h) (Or.inl ⟨by kernel_rfl,fun w hSw=>(by (try dsimp only at hSw);go_simp)⟩) hHeld ?_
 refine takeG (i:=3) (d:=27) (v:=(.pointer (some ⟨b,0,none⟩))) rfl rfl (by kernel_rfl) (by kernel_rfl) (by kernel_rfl) (fun _ _ _ h=>h) (Or.inl ⟨by kernel_rfl,fun w hSw=>(by (try dsimp only at hSw);go_simp)⟩) hHeld ?_
 refine takeG (i:=4) (d:=28) (v:=(.func (.func 151) #[.pointer (some ⟨b,0,none⟩)] #[])) rfl rfl (by kernel_rfl) (by kernel_rfl) (by kernel_rfl) (fun _ _ _ h=>h) (Or.inl ⟨by kernel_rfl,fun w hSw=>(by (try dsimp only at hSw);first | go_simp | rfl)⟩) hHeld ?_
 simp only [List.setIfInBounds_toArray,List.set_cons_succ,List.set_cons_zero]
 refine stepG2 (i:=1) (j:=5) (by kernel_rfl) rfl rfl (by kernel_rfl) (by kernel_rfl) (fun K hK=>?_) (fun K hK=>?_)
 ·go_simp
  obtain ⟨Y,hY⟩:∃ Y,X.alloc (.cells #[.int .i64 k',.int .i64 n',.string s',.string t',.slice A0 n0 m0,.slice A1 n1 m1,.slice A2 n2 m2] 27)=Y:=⟨_,rfl⟩
  have hgy:X.grownBy Y none:=by rw [← hY];exact World.grownBy_alloc _ _ _
  have hzy:Y.heap.size=u2.heap.size+2:=by rw [← hY];simp;omega
  have HCy:Hid (CellsAt Y X.heap.size 0 [.int .i64 k',.int .i64 n',.string s',.string t',.slice A0 n0 m0,.slice A1 n1 m1,.slice A2 n2 m2]):=Lib.hid (by rw [← hY];exact cellsAt_new _ _ _)
  have HBy:=Lib.hid (HBx.out.kept hgy (by simp))
  have Ky:=Lib.hid (Kx.out.kept hgy (by simp) (by simp))
  have HEy:=Lib.hid (HEx.out.kept hgy (by simp))
  have HGy:=Lib.hid (grown_trans HGx.out (Below.grownBy' hgy))
  have HRy:=Lib.hid (HRx.out.keep (Same.of_grown hgy (fun _ _=>by simp)))
  rw [hY]
  clear hY hgy
  refine hK.out _ _ (HAll.out _ HBy.out) ?_
  clear hK K
  refine stepG (i:=5) (by kernel_rfl) rfl (by kernel_rfl) (fun K hK=>?_)
  go_simp
  refine (HI.out _ HGy.out Ky.out).mono ?_
  rintro e u6 (⟨A,cap,rfl,hl,hcp,hw⟩ | ⟨hF,nxF,hnF,rfl,dpF,hpF,hgF⟩)
  rotate_left
  ·exact ⟨rfl,.inr ⟨hF,nxF,hnF,rfl,dpF,hpF,grown_trans HGy.out hgF⟩⟩
  obtain ⟨NL,hNL⟩:∃ NL,NL=L.length:=⟨_,rfl⟩
  rw [← hNL]
  have HNL:=Lib.hid hNL
  have Kz:=Lib.hid hw.1
  have HBz:=Lib.hid (HBy.out.kept hw.2 (by simp;omega))
  have HEz:=Lib.hid (HEy.out.kept hw.2 (by simp;omega))
  have HGz:=Lib.hid (grown_trans HGy.out hw.2)
  have HRz:=Lib.hid (HRy.out.keep (Same.of_grown hw.2 (fun x hx=>by simp;omega)))
  have HCz:=Lib.hid (HCy.out.keep (P:=fun x=>x=X.heap.size) rfl (by omega) (Same.of_grown hw.2 (fun x hx=>by simp;omega)))
  rw [hzx] at HCz
  have HLz:=Lib.hid hl
  have HCp:=Lib.hid hcp
  have hzz:u2.heap.size+2≤u6.heap.size:=by have:=hw.2.size;omega
  clear hNL
  clear hw hl hcp
  refine hK.out _ _ (HAll.out _ HBz.out) ?_
  clear hK K
  have q1:=HEz.out
  have r0:=HEz.out.fr 0
  have r1:=HEz.out.fr 1
  have r2:=HEz.out.fr 2
  have r3:=HEz.out.fr 3
  have r4:=HEz.out.fr 4
  have r5:=HEz.out.fr 5
  have r6:=HEz.out.fr 6
  have e0:=HEz.out.c0
  have e1:=HEz.out.c1
  have e2:=HEz.out.c2
  have e3:=HEz.out.c3
  have e4:=HEz.out.c4
  have e5:=HEz.out.c5
  have e6:=HEz.out.c6
  refine stepG (i:=6) (by kernel_rfl) rfl (by kernel_rfl) (fun K hK=>?_)
  go_simp
  refine hK.out _ _ (HAll.out _ HBz.out) ?_
  clear hK K
  refine stepG (i:=7) (by kernel_rfl) rfl (by kernel_rfl) (fun K hK=>?_)
  go_simp
  show K _ (set7 u6 w.heap.size (.int .i64 11) (.int .i64 0) (.string ⟨#[]⟩) (.string ⟨#[]⟩) (.slice none 0 0) (.slice (some ⟨u2.heap.size+1,0,none⟩) 1 1) (.slice A NL cap))
  have hSf:Same (fun x=>x≠w.heap.size) u6 (set7 u6 w.heap.size (.int .i64 11) (.int .i64 0) (.string ⟨#[]⟩) (.string ⟨#[]⟩) (.slice none 0 0) (.slice (some ⟨u2.heap.size+1,0,none⟩) 1 1) (.slice A NL cap)):=Same.of_grown (set7_grown _ _ _ _ _ _ _ _ _) (fun x hx=>by simpa using hx)
  refine hK.out _ _ (HAll.out _ (HBz.out.kept (set7_grown _ _ _ _ _ _ _ _ _) (by simp;omega))) ?_
  clear hK K hHeld
  refine wpAnyH_done (by kernel_rfl) ?_ _
  go_wp2_with fail
  refine bodyPost_retF (res_enc rfl (HEz.out.all _ _ _ _ _ _ _)) rfl ⟨11,0,⟨#[]⟩,⟨#[]⟩,none,0,0,some ⟨u2.heap.size+1,0,none⟩,1,1,A,NL,cap,rfl,?_,Kz.out.kept (set7_grown _ _ _ _ _ _ _ _ _) (by simp;omega) (by simp;omega),grown_7 HGz.out (Nat.le_refl _) _ _ _ _ _ _ _⟩
  refine ⟨none,0,some ⟨u2.heap.size+1,0,none⟩,1,A,cap,by rw [HNL.out];simp only [exCells,List.length_map];rfl,⟨okN_small (by omega),okN_small (by omega),okS_nil,okS_nil,by simp,⟨Nat.le_refl _,Nat.zero_le _⟩,⟨Nat.le_refl _,by unfold maxLen;omega⟩,by simpa using HCp.out⟩,fun h=>absurd rfl h,fun _=>?_,fun hb=>?_,by simp⟩
  ·refine ⟨u2.heap.size+1,0,rfl,by omega,Nat.lt_of_lt_of_le (by omega) hSf.1,⟨_,rfl,HCz.out.keep (P:=fun x=>x≠w.heap.size) (by omega) (by omega) hSf,?_⟩,trivial⟩
   exact ((HRz.out.weaken (Q:=fun x=>x≠w.heap.size∧w.heap.size≤x) (fun x hx=>⟨by omega,by omega⟩)).keep (hSf.anti (fun x hx=>hx.1))).weaken (fun x hx=>hx.2)
  ·obtain ⟨x,off,e,h1,h2,h3⟩:=HLz.out (by intro h;subst h;exact hb rfl)
   exact ⟨x,off,e,by omega,Nat.lt_of_lt_of_le h2 hSf.1,(RepA.keep (hSf.anti (P:=fun x=>x≠w.heap.size∧w.heap.size≤x) (fun x hx=>hx.1)) ⟨by omega,by omega⟩ h2 (h3.weaken (fun y hy=>⟨by omega,by omega⟩))).weaken (fun y hy=>hy.2)⟩
 ·go_simp
  refine (HI.out _ HGx.out Kx.out).mono ?_
  rintro e u6 (⟨A,cap,rfl,hl,hcp,hw⟩ | ⟨hF,nxF,hnF,rfl,dpF,hpF,hgF⟩)
  rotate_left
  ·exact ⟨rfl,.inr ⟨hF,nxF,hnF,rfl,dpF,hpF,grown_trans HGx.out hgF⟩⟩
  obtain ⟨NL,hNL⟩:∃ NL,NL=L.length:=⟨_,rfl⟩
  rw [← hNL]
  have HNL:=Lib.hid hNL
  have K6:=Lib.hid hw.1
  have HB6:=Lib.hid (HBx.out.kept hw.2 (by simp;omega))
  have HE6:=Lib.hid (HEx.out.kept hw.2 (by simp;omega))
  have HG6:=Lib.hid (grown_trans HGx.out hw.2)
  have HR6:=Lib.hid (HRx.out.keep (Same.of_grown hw.2 (fun x hx=>by simp;omega)))
  have hz6:u2.heap.size+1≤u6.heap.size:=by have:=hw.2.size;omega
  have HL6:=Lib.hid hl
  have HCp:=Lib.hid hcp
  clear hNL
  clear hw hl hcp
  refine hK.out _ _ (HAll.out _ HB6.out) ?_
  clear hK K
  refine stepG (i:=1) (by kernel_rfl) rfl (by kernel_rfl) (fun K hK=>?_)
  go_simp
  obtain ⟨Y,hY⟩:∃ Y,u6.alloc (.cells #[.int .i64 k',.int .i64 n',.string s',.string t',.slice A0 n0 m0,.slice A1 n1 m1,.slice A2 n2 m2] 27)=Y:=⟨_,rfl⟩
  have hgy:u6.grownBy Y none:=by rw [← hY];exact World.grownBy_alloc _ _ _
  have hzy:Y.heap.size=u6.heap.size+1:=by rw [← hY];simp
  have HCz:Hid (CellsAt Y u6.heap.size 0 [.int .i64 k',.int .i64 n',.string s',.string t',.slice A0 n0 m0,.slice A1 n1 m1,.slice A2 n2 m2]):=Lib.hid (by rw [← hY];exact cellsAt_new _ _ _)
  have HBz:=Lib.hid (HB6.out.kept hgy (by simp))
  have Kz:=Lib.hid (K6.out.kept hgy (by simp) (by simp))
  have HEz:=Lib.hid (HE6.out.kept hgy (by simp))
  have HGz:=Lib.hid (grown_trans HG6.out (Below.grownBy' hgy))
  have HRz:=Lib.hid (HR6.out.keep (Same.of_grown hgy (fun _ _=>by simp)))
  have HLz:Hid (L≠[]→∃ x off,A=some ⟨x,off,none⟩∧X.heap.size≤x∧x < Y.heap.size∧RepA (fun x=>X.heap.size≤x) Y x off (L.map (·.1)) (L.map (·.2))):=Lib.hid (fun h0=>by
   obtain ⟨x,off,e,h1,h2,h3⟩:=HL6.out h0
   exact ⟨x,off,e,h1,by omega,RepA.keep (Same.of_grown hgy (fun _ _=>by simp)) h1 h2 h3⟩)
  rw [hY]
  clear hY hgy
  refine hK.out _ _ (HAll.out _ HBz.out) ?_
  clear hK K
  have q1:=HEz.out
  have r0:=HEz.out.fr 0
  have r1:=HEz.out.fr 1
  have r2:=HEz.out.fr 2
  have r3:=HEz.out.fr 3
  have r4:=HEz.out.fr 4
  have r5:=HEz.out.fr 5
  have r6:=HEz.out.fr 6
  have e0:=HEz.out.c0
  have e1:=HEz.out.c1
  have e2:=HEz.out.c2
  have e3:=HEz.out.c3
  have e4:=HEz.out.c4
  have e5:=HEz.out.c5
  have e6:=HEz.out.c6
  refine stepG (i:=6) (by kernel_rfl) rfl (by kernel_rfl) (fun K hK=>?_)
  go_simp
  refine hK.out _ _ (HAll.out _ HBz.out) ?_
  clear hK K
  refine stepG (i:=7) (by kernel_rfl) rfl (by kernel_rfl) (fun K hK=>?_)
  go_simp
  show K _ (set7 Y w.heap.size (.int .i64 11) (.int .i64 0) (.string ⟨#[]⟩) (.string ⟨#[]⟩) (.slice none 0 0) (.slice (some ⟨u6.heap.size,0,none⟩) 1 1) (.slice A NL cap))
  have hSf:Same (fun x=>x≠w.heap.size) Y (set7 Y w.heap.size (.int .i64 11) (.int .i64 0) (.string ⟨#[]⟩) (.string ⟨#[]⟩) (.slice none 0 0) (.slice (some ⟨u6.heap.size,0,none⟩) 1 1) (.slice A NL cap)):=Same.of_grown (set7_grown _ _ _ _ _ _ _ _ _) (fun x hx=>by simpa using hx)
  refine hK.out _ _ (HAll.out _ (HBz.out.kept (set7_grown _ _ _ _ _ _ _ _ _) (by simp;omega))) ?_
  clear hK K hHeld
  refine wpAnyH_done (by kernel_rfl) ?_ _
  go_wp2_with fail
  refine bodyPost_retF (res_enc rfl (HEz.out.all _ _ _ _ _ _ _)) rfl ⟨11,0,⟨#[]⟩,⟨#[]⟩,none,0,0,some ⟨u6.heap.size,0,none⟩,1,1,A,NL,cap,rfl,?_,Kz.out.kept (set7_grown _ _ _ _ _ _ _ _ _) (by simp;omega) (by simp;omega),grown_7 HGz.out (Nat.le_refl _) _ _ _ _ _ _ _⟩
  refine ⟨none,0,some ⟨u6.heap.size,0,none⟩,1,A,cap,by rw [HNL.out];simp only [exCells,List.length_map];rfl,⟨okN_small (by omega),okN_small (by omega),okS_nil,okS_nil,by simp,⟨Nat.le_refl _,Nat.zero_le _⟩,⟨Nat.le_refl _,by unfold maxLen;omega⟩,by simpa using HCp.out⟩,fun h=>absurd rfl h,fun _=>?_,fun hb=>?_,by simp⟩
  ·refine ⟨u6.heap.size,0,rfl,by omega,Nat.lt_of_lt_of_le (by omega) hSf.1,⟨_,rfl,HCz.out.keep (P:=fun x=>x≠w.heap.size) (by omega) (by omega) hSf,?_⟩,trivial⟩
   exact ((HRz.out.weaken (Q:=fun x=>x≠w.heap.size∧w.heap.size≤x) (fun x hx=>⟨by omega,by omega⟩)).keep (hSf.anti (fun x hx=>hx.1))).weaken (fun x hx=>hx.2)
  ·obtain ⟨x,off,e,h1,h2,h3⟩:=HLz.out (by intro h;subst h;exact hb rfl)
   exact ⟨x,off,e,by omega,Nat.lt_of_lt_of_le h2 hSf.1,(RepA.keep (hSf.anti (P:=fun x=>x≠w.heap.size∧w.heap.size≤x) (fun x hx=>hx.1)) ⟨by omega,by omega⟩ h2 (h3.weaken (fun y hy=>⟨by omega,by omega⟩))).weaken (fun y hy=>hy.2)⟩
end Go.Proofs.YtpjabnemkmdobaaGreatDoor
