/- Texts put together by program: EbQ EbR EbS EbT EbU EbV EbW EbX EbAH. -/
import Derived.Test.YtpjabnemkmdobaaGreatDoorMgH
import Derived.Test.YtpjabnemkmdobaaGreatDoorMgG
namespace Go.Proofs.YtpjabnemkmdobaaGreatDoor
open Go.RowKit
theorem res_enc {tmps:Array Value}{w:World}{g:Nat}{v0 v1 v2 v3 v4 v5 v6:Value}(h2:tmps.getD 2 undef=.pointer (some ⟨g,0,none⟩))(h:EB w g v0 v1 v2 v3 v4 v5 v6) :
  (results Tryz.f143 tmps).run Tryz.prog w=.ok (.agg #[v0,v1,v2,v3,v4,v5,v6]) w:=by
 have c0:=h.c0
 have c1:=h.c1
 have c2:=h.c2
 have c3:=h.c3
 have c4:=h.c4
 have c5:=h.c5
 have c6:=h.c6
 have h2':tmps[2]?.getD undef=.pointer (some ⟨g,0,none⟩):=by simpa using h2
 simp [results,Tryz.results143,go_sem,h2',c0,c1,c2,c3,c4,c5,c6]
set_option maxRecDepth 100000 in
set_option maxHeartbeats 2000000 in
theorem atom1_con {F:Prop}(x b g go c:Nat)(ts:List Rt)(nx nx1 dp:Nat)(t:Rt)(ex:Ex)(w:World)(h:PS w b g go c ts nx dp)(hx:BoxP w x b)(ht:ts[nx]?=some t)(hk:t.k=2)
  (HC:Hid (∀ w',w.grownBy w' (some b)→PS w' b g go c ts nx dp→Calls Tryz.prog 142 #[.pointer (some ⟨b,0,none⟩)] w' (OF F w' b g go c ts (ExprTo w' b g go c ts nx1 dp ex)))) :
  Calls Tryz.prog 141 #[.pointer (some ⟨x,0,none⟩)] w (OF F w b g go c ts (ExprTo w b g go c ts nx1 dp ex)):=by
 have HP:=Lib.hid (fun w h=>peek_any b g go c ts nx dp t w h ht)
 have H:=Lib.hid h
 have HX:=Lib.hid hx
 have hbl:=h.blt
 have hgl:=h.lt
 have hxl:=hx.lt
 have hxb:=hx.ne h
 have cx:=hx.c
 have fl0:=tfield0
 obtain ⟨tk,tss,tn,tp⟩:=t
 simp only at HP hk
 subst hk
 obtain ⟨S,hS⟩:∃ S,S=strB tss:=⟨_,rfl⟩
 rw [← hS] at HP
 clear h hx ht hS
 go_enter Tryz.func141,Tryz.ntmps141
 go_wp2_with fail
 have H0:=Lib.hid (H.out.below (WH0_below w))
 have HX0:=Lib.hid (HX.out.kept (grown_below (WH0_below w) none) (by simp))
 refine (HP.out _ H0.out).mono ?_
 rintro e w1 ⟨rfl,hb⟩
 have H1:=Lib.hid (H0.out.below hb)
 have HE1:=Lib.hid ((WH0_E w).kept (grown_below hb none) (by simp))
 have HX1:=Lib.hid (HX0.out.kept (grown_below hb none) (by simp))
 have HG1:=Lib.hid (grown_trans (grown_below (WH0_below w) (some b)) (grown_below hb _))
 have hz1:w.heap.size < w1.heap.size:=HE1.out.lt
 have cx1:=HX1.out.c
 have hx1:=HX1.out.lt
 clear hb
 go_wp2_with fail
 refine (HC.out _ HG1.out H1.out).mono ?_
 rintro e w2 (⟨k,n,s,u,A0,n0,m0,A1,n1,m1,A2,n2,m2,rfl,hr,hw⟩ | ⟨hF,nxF,hnF,rfl,dpF,hpF,hgF⟩)
 rotate_left
 ·exact ⟨rfl,.inr ⟨hF,nxF,hnF,rfl,dpF,hpF,grown_trans HG1.out hgF⟩⟩
 have HR:=Lib.hid hr
 have H2:=Lib.hid hw.1
 have HE2:=Lib.hid (HE1.out.kept hw.2 (by simp;omega))
 have HG2:=Lib.hid (grown_trans HG1.out hw.2)
 have e0:=HE2.out.c0
 have r0:=HE2.out.fr 0
 have e1:=HE2.out.c1
 have r1:=HE2.out.fr 1
 have e2:=HE2.out.c2
 have r2:=HE2.out.fr 2
 have e3:=HE2.out.c3
 have r3:=HE2.out.fr 3
 have e4:=HE2.out.c4
 have r4:=HE2.out.fr 4
 have e5:=HE2.out.c5
 have r5:=HE2.out.fr 5
 have e6:=HE2.out.c6
 have r6:=HE2.out.fr 6
 clear hr hw HC
 go_wp2_with fail
 exact bodyPost_retF (res_atom1 rfl (HE2.out.all _ _ _ _ _ _ _)) rfl ⟨k,n,s,u,A0,n0,m0,A1,n1,m1,A2,n2,m2,rfl,(HR.out.keep (Same.of_grown (set7_grown _ _ _ _ _ _ _ _ _) (fun x hx=>by simp;omega))).weaken (fun x hx=>by omega),H2.out.kept (set7_grown _ _ _ _ _ _ _ _ _) (by simp;omega) (by simp;omega),grown_7 HG2.out (Nat.le_refl _) _ _ _ _ _ _ _⟩
set_option maxRecDepth 100000 in
set_option maxHeartbeats 2000000 in
theorem atom1_kw {F:Prop}(x b g go c:Nat)(ts:List Rt)(nx nx1 dp:Nat)(t:Rt)(ex:Ex)(w:World)(h:PS w b g go c ts nx dp)(hx:BoxP w x b)(ht:ts[nx]?=some t)(hk:t.k=1)
  (HC:Hid (∀ w',w.grownBy w' (some b)→PS w' b g go c ts nx dp→Calls Tryz.prog 143 #[.pointer (some ⟨b,0,none⟩)] w' (OF F w' b g go c ts (ExprTo w' b g go c ts nx1 dp ex)))) :
  Calls Tryz.prog 141 #[.pointer (some ⟨x,0,none⟩)] w (OF F w b g go c ts (ExprTo w b g go c ts nx1 dp ex)):=by
 have HP:=Lib.hid (fun w h=>peek_any b g go c ts nx dp t w h ht)
 have H:=Lib.hid h
 have HX:=Lib.hid hx
 have hbl:=h.blt
 have hgl:=h.lt
 have hxl:=hx.lt
 have hxb:=hx.ne h
 have cx:=hx.c
 have fl0:=tfield0
 obtain ⟨tk,tss,tn,tp⟩:=t
 simp only at HP hk
 subst hk
 obtain ⟨S,hS⟩:∃ S,S=strB tss:=⟨_,rfl⟩
 rw [← hS] at HP
 clear h hx ht hS
 go_enter Tryz.func141,Tryz.ntmps141
 go_wp2_with fail
 have H0:=Lib.hid (H.out.below (WH0_below w))
 have HX0:=Lib.hid (HX.out.kept (grown_below (WH0_below w) none) (by simp))
 refine (HP.out _ H0.out).mono ?_
 rintro e w1 ⟨rfl,hb⟩
 have H1:=Lib.hid (H0.out.below hb)
 have HE1:=Lib.hid ((WH0_E w).kept (grown_below hb none) (by simp))
 have HX1:=Lib.hid (HX0.out.kept (grown_below hb none) (by simp))
 have HG1:=Lib.hid (grown_trans (grown_below (WH0_below w) (some b)) (grown_below hb _))
 have hz1:w.heap.size < w1.heap.size:=HE1.out.lt
 have cx1:=HX1.out.c
 have hx1:=HX1.out.lt
 clear hb
 go_wp2_with fail
 refine (HC.out _ HG1.out H1.out).mono ?_
 rintro e w2 (⟨k,n,s,u,A0,n0,m0,A1,n1,m1,A2,n2,m2,rfl,hr,hw⟩ | ⟨hF,nxF,hnF,rfl,dpF,hpF,hgF⟩)
 rotate_left
 ·exact ⟨rfl,.inr ⟨hF,nxF,hnF,rfl,dpF,hpF,grown_trans HG1.out hgF⟩⟩
 have HR:=Lib.hid hr
 have H2:=Lib.hid hw.1
 have HE2:=Lib.hid (HE1.out.kept hw.2 (by simp;omega))
 have HG2:=Lib.hid (grown_trans HG1.out hw.2)
 have e0:=HE2.out.c0
 have r0:=HE2.out.fr 0
 have e1:=HE2.out.c1
 have r1:=HE2.out.fr 1
 have e2:=HE2.out.c2
 have r2:=HE2.out.fr 2
 have e3:=HE2.out.c3
 have r3:=HE2.out.fr 3
 have e4:=HE2.out.c4
 have r4:=HE2.out.fr 4
 have e5:=HE2.out.c5
 have r5:=HE2.out.fr 5
 have e6:=HE2.out.c6
 have r6:=HE2.out.fr 6
 clear hr hw HC
 go_wp2_with fail
 exact bodyPost_retF (res_atom1 rfl (HE2.out.all _ _ _ _ _ _ _)) rfl ⟨k,n,s,u,A0,n0,m0,A1,n1,m1,A2,n2,m2,rfl,(HR.out.keep (Same.of_grown (set7_grown _ _ _ _ _ _ _ _ _) (fun x hx=>by simp;omega))).weaken (fun x hx=>by omega),H2.out.kept (set7_grown _ _ _ _ _ _ _ _ _) (by simp;omega) (by simp;omega),grown_7 HG2.out (Nat.le_refl _) _ _ _ _ _ _ _⟩
set_option maxRecDepth 100000 in
set_option maxHeartbeats 2000000 in
theorem atom1_sym {F:Prop}(x b g go c:Nat)(ts:List Rt)(nx nx1 dp:Nat)(t:Rt)(ex:Ex)(w:World)(h:PS w b g go c ts nx dp)(hx:BoxP w x b)(ht:ts[nx]?=some t)(hk:t.k=4)
  (HC:Hid (∀ w',w.grownBy w' (some b)→PS w' b g go c ts nx dp→Calls Tryz.prog 143 #[.pointer (some ⟨b,0,none⟩)] w' (OF F w' b g go c ts (ExprTo w' b g go c ts nx1 dp ex)))) :
  Calls Tryz.prog 141 #[.pointer (some ⟨x,0,none⟩)] w (OF F w b g go c ts (ExprTo w b g go c ts nx1 dp ex)):=by
 have HP:=Lib.hid (fun w h=>peek_any b g go c ts nx dp t w h ht)
 have H:=Lib.hid h
 have HX:=Lib.hid hx
 have hbl:=h.blt
 have hgl:=h.lt
 have hxl:=hx.lt
 have hxb:=hx.ne h
 have cx:=hx.c
 have fl0:=tfield0
 obtain ⟨tk,tss,tn,tp⟩:=t
 simp only at HP hk
 subst hk
 obtain ⟨S,hS⟩:∃ S,S=strB tss:=⟨_,rfl⟩
 rw [← hS] at HP
 clear h hx ht hS
 go_enter Tryz.func141,Tryz.ntmps141
 go_wp2_with fail
 have H0:=Lib.hid (H.out.below (WH0_below w))
 have HX0:=Lib.hid (HX.out.kept (grown_below (WH0_below w) none) (by simp))
 refine (HP.out _ H0.out).mono ?_
 rintro e w1 ⟨rfl,hb⟩
 have H1:=Lib.hid (H0.out.below hb)
 have HE1:=Lib.hid ((WH0_E w).kept (grown_below hb none) (by simp))
 have HX1:=Lib.hid (HX0.out.kept (grown_below hb none) (by simp))
 have HG1:=Lib.hid (grown_trans (grown_below (WH0_below w) (some b)) (grown_below hb _))
 have hz1:w.heap.size < w1.heap.size:=HE1.out.lt
 have cx1:=HX1.out.c
 have hx1:=HX1.out.lt
 clear hb
 go_wp2_with fail
 refine (HC.out _ HG1.out H1.out).mono ?_
 rintro e w2 (⟨k,n,s,u,A0,n0,m0,A1,n1,m1,A2,n2,m2,rfl,hr,hw⟩ | ⟨hF,nxF,hnF,rfl,dpF,hpF,hgF⟩)
 rotate_left
 ·exact ⟨rfl,.inr ⟨hF,nxF,hnF,rfl,dpF,hpF,grown_trans HG1.out hgF⟩⟩
 have HR:=Lib.hid hr
 have H2:=Lib.hid hw.1
 have HE2:=Lib.hid (HE1.out.kept hw.2 (by simp;omega))
 have HG2:=Lib.hid (grown_trans HG1.out hw.2)
 have e0:=HE2.out.c0
 have r0:=HE2.out.fr 0
 have e1:=HE2.out.c1
 have r1:=HE2.out.fr 1
 have e2:=HE2.out.c2
 have r2:=HE2.out.fr 2
 have e3:=HE2.out.c3
 have r3:=HE2.out.fr 3
 have e4:=HE2.out.c4
 have r4:=HE2.out.fr 4
 have e5:=HE2.out.c5
 have r5:=HE2.out.fr 5
 have e6:=HE2.out.c6
 have r6:=HE2.out.fr 6
 clear hr hw HC
 go_wp2_with fail
 exact bodyPost_retF (res_atom1 rfl (HE2.out.all _ _ _ _ _ _ _)) rfl ⟨k,n,s,u,A0,n0,m0,A1,n1,m1,A2,n2,m2,rfl,(HR.out.keep (Same.of_grown (set7_grown _ _ _ _ _ _ _ _ _) (fun x hx=>by simp;omega))).weaken (fun x hx=>by omega),H2.out.kept (set7_grown _ _ _ _ _ _ _ _ _) (by simp;omega) (by simp;omega),grown_7 HG2.out (Nat.le_refl _) _ _ _ _ _ _ _⟩
set_option maxRecDepth 100000 in
set_option maxHeartbeats 2000000 in
theorem enc_true {F:Prop}(b g go c:Nat)(ts:List Rt)(nx dp:Nat)(t:Rt)(w:World)(h:PS w b g go c ts nx dp)(ht:ts[nx]?=some t)(hs:t.s=[116,114,117,101])(hlen:ts.length≤100000) :
  Calls Tryz.prog 143 #[.pointer (some ⟨b,0,none⟩)] w (OF F w b g go c ts (ExprTo w b g go c ts (nx+1) dp (.mk 2 1 [] [] [] [] [] []))):=by
 have HY:=Lib.hid (fun w h=>skip_yes b g go c ts nx dp t ⟨#[116,114,117,101]⟩ w h ht hs hlen)
 have H:=Lib.hid h
 have hbl:=h.blt
 have hgl:=h.lt
 clear h ht hs hlen
 go_enter Tryz.func143,Tryz.ntmps143
 go_wp2_with fail
 have H0:=Lib.hid (H.out.below (WH0_below w))
 have HE0:=Lib.hid (WH0_E w)
 have HG0:=Lib.hid (grown_below (WH0_below w) (some b))
 refine (HY.out _ H0.out).mono ?_
 rintro e u1 ⟨rfl,hw⟩
 have K1:=Lib.hid hw.1
 have HEa:=Lib.hid (HE0.out.kept hw.2 (by simp;omega))
 have HGa:=Lib.hid (grown_trans HG0.out hw.2)
 have hza:w.heap.size < u1.heap.size:=HEa.out.lt
 have e0:=HEa.out.c0
 have r0:=HEa.out.fr 0
 have e1:=HEa.out.c1
 have r1:=HEa.out.fr 1
 have e2:=HEa.out.c2
 have r2:=HEa.out.fr 2
 have e3:=HEa.out.c3
 have r3:=HEa.out.fr 3
 have e4:=HEa.out.c4
 have r4:=HEa.out.fr 4
 have e5:=HEa.out.c5
 have r5:=HEa.out.fr 5
 have e6:=HEa.out.c6
 have r6:=HEa.out.fr 6
 clear hw
 go_wp2_with fail
 exact bodyPost_retF (res_enc rfl (HEa.out.all _ _ _ _ _ _ _)) rfl ⟨2,1,⟨#[]⟩,⟨#[]⟩,none,0,0,none,0,0,none,0,0,rfl,rep_leaf (s:=[]) (okN_small (by omega)) (okN_small (by omega)) okS_nil,K1.out.kept (set7_grown _ _ _ _ _ _ _ _ _) (by simp;omega) (by simp;omega),grown_7 HGa.out (Nat.le_refl _) _ _ _ _ _ _ _⟩
set_option maxRecDepth 100000 in
set_option maxHeartbeats 2000000 in
theorem enc_false {F:Prop}(b g go c:Nat)(ts:List Rt)(nx dp:Nat)(t:Rt)(w:World)(h:PS w b g go c ts nx dp)(ht:ts[nx]?=some t)(hs:t.s=[102,97,108,115,101])(hlen:ts.length≤100000) :
  Calls Tryz.prog 143 #[.pointer (some ⟨b,0,none⟩)] w (OF F w b g go c ts (ExprTo w b g go c ts (nx+1) dp (.mk 2 0 [] [] [] [] [] []))):=by
 have HS0:=Lib.hid (fun w h=>skip_no b g go c ts nx dp t ⟨#[116,114,117,101]⟩ w h ht (by rw [hs];decide))
 have HY:=Lib.hid (fun w h=>skip_yes b g go c ts nx dp t ⟨#[102,97,108,115,101]⟩ w h ht hs hlen)
 have H:=Lib.hid h
 have hbl:=h.blt
 have hgl:=h.lt
 clear h ht hs hlen
 go_enter Tryz.func143,Tryz.ntmps143
 go_wp2_with fail
 have H0:=Lib.hid (H.out.below (WH0_below w))
 have HE0:=Lib.hid (WH0_E w)
 have HG0:=Lib.hid (grown_below (WH0_below w) (some b))
 refine (HS0.out _ H0.out).mono ?_
 rintro e w1 ⟨rfl,hb⟩
 have H1:=Lib.hid (H0.out.below hb)
 have HE1:=Lib.hid (HE0.out.kept (grown_below hb none) (by simp))
 have HG1:=Lib.hid (grown_trans HG0.out (grown_below hb _))
 have hz1:w.heap.size < w1.heap.size:=HE1.out.lt
 clear hb
 go_wp2_with fail
 refine (HY.out _ H1.out).mono ?_
 rintro e u1 ⟨rfl,hw⟩
 have K1:=Lib.hid hw.1
 have HEa:=Lib.hid (HE1.out.kept hw.2 (by simp;omega))
 have HGa:=Lib.hid (grown_trans HG1.out hw.2)
 have hza:w.heap.size < u1.heap.size:=HEa.out.lt
 have e0:=HEa.out.c0
 have r0:=HEa.out.fr 0
 have e1:=HEa.out.c1
 have r1:=HEa.out.fr 1
 have e2:=HEa.out.c2
 have r2:=HEa.out.fr 2
 have e3:=HEa.out.c3
 have r3:=HEa.out.fr 3
 have e4:=HEa.out.c4
 have r4:=HEa.out.fr 4
 have e5:=HEa.out.c5
 have r5:=HEa.out.fr 5
 have e6:=HEa.out.c6
 have r6:=HEa.out.fr 6
 clear hw
 go_wp2_with fail
 exact bodyPost_retF (res_enc rfl (HEa.out.all _ _ _ _ _ _ _)) rfl ⟨2,0,⟨#[]⟩,⟨#[]⟩,none,0,0,none,0,0,none,0,0,rfl,rep_leaf (s:=[]) (okN_small (by omega)) (okN_small (by omega)) okS_nil,K1.out.kept (set7_grown _ _ _ _ _ _ _ _ _) (by simp;omega) (by simp;omega),grown_7 HGa.out (Nat.le_refl _) _ _ _ _ _ _ _⟩
set_option maxRecDepth 100000 in
set_option maxHeartbeats 2000000 in
theorem enc_par {F:Prop}(b g go c:Nat)(ts:List Rt)(nx nx1 dp:Nat)(t:Rt)(ex:Ex)(w:World)(h:PS w b g go c ts nx dp)(ht:ts[nx]?=some t)(hs:t.s=[40])
  (HP:Hid (∀ w',w.grownBy w' (some b)→PS w' b g go c ts nx dp→Calls Tryz.prog 153 #[.pointer (some ⟨b,0,none⟩)] w' (OF F w' b g go c ts (ExprTo w' b g go c ts nx1 dp ex)))) :
  Calls Tryz.prog 143 #[.pointer (some ⟨b,0,none⟩)] w (OF F w b g go c ts (ExprTo w b g go c ts nx1 dp ex)):=by
 have HS0:=Lib.hid (fun w h=>skip_no b g go c ts nx dp t ⟨#[116,114,117,101]⟩ w h ht (by rw [hs];decide))
 have HS1:=Lib.hid (fun w h=>skip_no b g go c ts nx dp t ⟨#[102,97,108,115,101]⟩ w h ht (by rw [hs];decide))
 have HS2:=Lib.hid (fun w h=>skip_no b g go c ts nx dp t ⟨#[109,97,116,99,104]⟩ w h ht (by rw [hs];decide))
 have HS3:=Lib.hid (fun w h=>skip_no b g go c ts nx dp t ⟨#[104,97,110,100,108,101]⟩ w h ht (by rw [hs];decide))
 have HS4:=Lib.hid (fun w h=>skip_no b g go c ts nx dp t ⟨#[115,104,97,108,108,111,119]⟩ w h ht (by rw [hs];decide))
 have HS5:=Lib.hid (fun w h=>skip_no b g go c ts nx dp t ⟨#[110,97,109,101,100]⟩ w h ht (by rw [hs];decide))
 have H:=Lib.hid h
 have hbl:=h.blt
 have hgl:=h.lt
 clear h ht hs
 go_enter Tryz.func143,Tryz.ntmps143
 go_wp2_with fail
 have H0:=Lib.hid (H.out.below (WH0_below w))
 have HE0:=Lib.hid (WH0_E w)
 have HG0:=Lib.hid (grown_below (WH0_below w) (some b))
 refine (HS0.out _ H0.out).mono ?_
 rintro e w1 ⟨rfl,hb⟩
 have H1:=Lib.hid (H0.out.below hb)
 have HE1:=Lib.hid (HE0.out.kept (grown_below hb none) (by simp))
 have HG1:=Lib.hid (grown_trans HG0.out (grown_below hb _))
 have hz1:w.heap.size < w1.heap.size:=HE1.out.lt
 clear hb
 go_wp2_with fail
 refine (HS1.out _ H1.out).mono ?_
 rintro e w2 ⟨rfl,hb⟩
 have H2:=Lib.hid (H1.out.below hb)
 have HE2:=Lib.hid (HE1.out.kept (grown_below hb none) (by simp))
 have HG2:=Lib.hid (grown_trans HG1.out (grown_below hb _))
 have hz2:w.heap.size < w2.heap.size:=HE2.out.lt
 clear hb
 go_wp2_with fail
 refine (HS2.out _ H2.out).mono ?_
 rintro e w3 ⟨rfl,hb⟩
 have H3:=Lib.hid (H2.out.below hb)
 have HE3:=Lib.hid (HE2.out.kept (grown_below hb none) (by simp))
 have HG3:=Lib.hid (grown_trans HG2.out (grown_below hb _))
 have hz3:w.heap.size < w3.heap.size:=HE3.out.lt
 clear hb
 go_wp2_with fail
 refine (HS3.out _ H3.out).mono ?_
 rintro e w4 ⟨rfl,hb⟩
 have H4:=Lib.hid (H3.out.below hb)
 have HE4:=Lib.hid (HE3.out.kept (grown_below hb none) (by simp))
 have HG4:=Lib.hid (grown_trans HG3.out (grown_below hb _))
 have hz4:w.heap.size < w4.heap.size:=HE4.out.lt
 clear hb
 go_wp2_with fail
 refine (HS4.out _ H4.out).mono ?_
 rintro e w5 ⟨rfl,hb⟩
 have H5:=Lib.hid (H4.out.below hb)
 have HE5:=Lib.hid (HE4.out.kept (grown_below hb none) (by simp))
 have HG5:=Lib.hid (grown_trans HG4.out (grown_below hb _))
 have hz5:w.heap.size < w5.heap.size:=HE5.out.lt
 clear hb
 go_wp2_with fail
 refine (HS5.out _ H5.out).mono ?_
 rintro e w6 ⟨rfl,hb⟩
 have H6:=Lib.hid (H5.out.below hb)
 have HE6:=Lib.hid (HE5.out.kept (grown_below hb none) (by simp))
 have HG6:=Lib.hid (grown_trans HG5.out (grown_below hb _))
 have hz6:w.heap.size < w6.heap.size:=HE6.out.lt
 clear hb
 go_wp2_with fail
 refine (HP.out _ HG6.out H6.out).mono ?_
 rintro e w7 (⟨k,n,s,u,A0,n0,m0,A1,n1,m1,A2,n2,m2,rfl,hr,hw⟩ | ⟨hF,nxF,hnF,rfl,dpF,hpF,hgF⟩)
 rotate_left
 ·exact ⟨rfl,.inr ⟨hF,nxF,hnF,rfl,dpF,hpF,grown_trans HG6.out hgF⟩⟩
 have HR:=Lib.hid hr
 have H7:=Lib.hid hw.1
 have HE7:=Lib.hid (HE6.out.kept hw.2 (by simp;omega))
 have HG7:=Lib.hid (grown_trans HG6.out hw.2)
 have e0:=HE7.out.c0
 have r0:=HE7.out.fr 0
 have e1:=HE7.out.c1
 have r1:=HE7.out.fr 1
 have e2:=HE7.out.c2
 have r2:=HE7.out.fr 2
 have e3:=HE7.out.c3
 have r3:=HE7.out.fr 3
 have e4:=HE7.out.c4
 have r4:=HE7.out.fr 4
 have e5:=HE7.out.c5
 have r5:=HE7.out.fr 5
 have e6:=HE7.out.c6
 have r6:=HE7.out.fr 6
 clear hr hw HP
 go_wp2_with fail
 exact bodyPost_retF (res_enc rfl (HE7.out.all _ _ _ _ _ _ _)) rfl ⟨k,n,s,u,A0,n0,m0,A1,n1,m1,A2,n2,m2,rfl,(HR.out.keep (Same.of_grown (set7_grown _ _ _ _ _ _ _ _ _) (fun x hx=>by simp;omega))).weaken (fun x hx=>by omega),H7.out.kept (set7_grown _ _ _ _ _ _ _ _ _) (by simp;omega) (by simp;omega),grown_7 HG7.out (Nat.le_refl _) _ _ _ _ _ _ _⟩
set_option maxRecDepth 100000 in
set_option maxHeartbeats 4000000 in
theorem behindP_any {F:Prop}(b g go c:Nat)(ts:List Rt)(nx dp:Nat)(Tk:List (List UInt8))(At:Option Addr)(ct:Nat)(L:List Ex)(hd:Nat→Nat)(w:World)(h:PS w b g go c ts nx dp)(hT:NamesAt (fun x=>x≠b) w At Tk)(hTL:Tk.length=L.length)(h0:hd 0=nx)(hL:L.length≤100000)(hlen:ts.length≤100000)
  (hneed:∀ (kk:Nat) (x:List UInt8),Tk[kk]?=some x→∃ t,ts[hd kk]?=some t∧t.s=x)
  (hread:∀ (kk:Nat) (e:Ex),L[kk]?=some e→∀ w',w.grownBy w' (some b)→PS w' b g go c ts (hd kk+1) dp→Calls Tryz.prog 20 #[.pointer (some ⟨b,0,none⟩)] w' (OF F w' b g go c ts (ExprTo w' b g go c ts (hd (kk+1)) dp e))) :
  Calls Tryz.prog 58 #[.pointer (some ⟨b,0,none⟩),.slice At Tk.length ct] w (OF F w b g go c ts (ListTo w b g go c ts (hd L.length) dp L)):=by
 obtain ⟨i0,hi,hz0,hz1,hz2⟩:=info_parts infoEx
 have H:=Lib.hid h
 have hbl:=h.blt
 have hgl:=h.lt
 have HL:=Lib.hid hread
 have HNe:=Lib.hid hneed
 have HTk0:=Lib.hid hT
 obtain ⟨n,hn⟩:∃ n,n=L.length:=⟨_,rfl⟩
 have HN:=Lib.hid hn
 have HTl:Hid (Tk.length=n):=Lib.hid (by rw [hTL,hn])
 have hn2:n≤100000:=by omega
 have H0:=Lib.hid h0
 rw [hTL,← hn]
 clear h hread hneed hT hTL hn hL h0
 go_enter Tryz.func58,Tryz.ntmps58
 go_wp2_with fail
 go_loopw [4,10] (fun v i wr=>∃ (kk:Nat) (A':Option Addr) (c':Nat) (cl:List (List Value)),kk≤n∧i=.int .i64 (kk:Int)∧v=.slice A' kk c'∧Hid (wr.ownsRow w.heap.size 27 7 (.slice A' kk c') kk cl.flatten)∧Hid (CellsE (fun x=>w.heap.size≤x∧some x≠(Value.slice A' kk c').ownBlock) wr (L.take kk) cl)∧Hid (PS wr b g go c ts (hd kk) dp)∧Hid (w.grownBy wr (some b))) (fun v _ _=>n - slLen2 v)
 case atStart=>exact ⟨0,none,0,[],Nat.zero_le _,rfl,rfl,Lib.hid (World.ownsRow_nil _ _ _ _),Lib.hid ⟨by simp,fun j e c h1 h2=>by simp at h2⟩,by rw [H0.out];exact H,Lib.hid ⟨rfl,rfl,rfl,Nat.le_refl _,fun _ _ _=>rfl⟩⟩
 case round =>
  obtain ⟨kk,A',c',cl,hkk,rfl,rfl,hO,hC,hP,hG⟩:=hrel
  have j0:(0:Int)≤(kk:Int):=by omega
  by_cases hkn:kk < n
  ·have j1:(kk:Int) < (n:Int):=by omega
   obtain ⟨x,hx⟩:∃ x,x=L[kk]'(by rw [← HN.out];exact hkn):=⟨_,rfl⟩
   have HX:Hid (L[kk]?=some x):=Lib.hid (by rw [hx];exact List.getElem?_eq_getElem _)
   obtain ⟨y,hy⟩:∃ y,y=Tk[kk]'(by rw [HTl.out];exact hkn):=⟨_,rfl⟩
   have hyl:Tk[kk]?=some y:=by rw [hy];exact List.getElem?_eq_getElem _
   obtain ⟨z,off,rfl,hzb,hzl,hzc⟩:=HTk0.out (List.ne_nil_of_mem (List.mem_of_getElem? hyl))
   obtain ⟨t,ht,hts⟩:=HNe.out kk y hyl
   obtain ⟨Y,hYe⟩:∃ Y,Y=strB y:=⟨_,rfl⟩
   have c0:wr.cell? ⟨z,off+kk,none⟩=some (.string Y):=by
    rw [hYe]
    exact (cell_grown hG.out hzl (by simpa using hzb)).trans (hzc kk y hyl)
   have HNd:=Lib.hid (fun w h=>need_ok b g go c ts (hd kk) dp t (strB y) w h ht (by rw [hts,data_strB]) hlen)
   rw [← hYe] at HNd
   have hzr:z < wr.heap.size:=Nat.lt_of_lt_of_le hzl hG.out.size
   clear hts ht hx hy hyl hzc hYe
   go_wp2_with fail
   refine (HNd.out _ hP.out).mono ?_
   rintro e w1 ⟨rfl,hw⟩
   have HP1:=Lib.hid hw.1
   have HO1:=Lib.hid (hO.out.kept hw.2 (own_apart2 hO.out hbl))
   have HC1:=Lib.hid (hC.out.keep (Same.of_grown hw.2 (fun x hx=>by have:=hx.1;simp;omega)))
   have HG1:=Lib.hid (grown_trans hG.out hw.2)
   clear hw
   go_wp2_with fail
   have HLb:=Lib.hid (HL.out _ x HX.out)
   refine (HLb.out _ HG1.out HP1.out).mono ?_
   rintro e w2 (⟨k,m,s,u,A0,n0,m0,A1,n1,m1,A2,n2,m2,rfl,hr,hw⟩ | ⟨hF,nxF,hnF,rfl,dpF,hpF,hgF⟩)
   rotate_left
   ·exact ⟨rfl,.inr ⟨hF,nxF,hnF,rfl,dpF,hpF,grown_trans HG1.out hgF⟩⟩
   have HP2:=Lib.hid hw.1
   have HO2:=Lib.hid (HO1.out.kept hw.2 (own_apart2 HO1.out hbl))
   have HC2:=Lib.hid ((HC1.out.keep (Same.of_grown hw.2 (fun x hx=>by have:=hx.1;simp;omega))).tight)
   have HG2:=Lib.hid (grown_trans HG1.out hw.2)
   have HR2:Hid (RepE (fun x=>(w.heap.size≤x∧some x≠(Value.slice A' kk c').ownBlock)∧x < w2.heap.size) w2 x [.int .i64 k,.int .i64 m,.string s,.string u,.slice A0 n0 m0,.slice A1 n1 m1,.slice A2 n2 m2]):=Lib.hid (hr.tight.weaken (fun y hy=>⟨⟨by have:=HG1.out.size;have:=hy.1;omega,fun e=>by have:=(HO1.out.lt _ e.symm).2;have:=hy.1;omega⟩,hy.2⟩))
   have hzw2:=HG2.out.size
   clear hr hw HLb
   go_wp2_with (at_builtin;refine wpList_append_own_at _ rfl _ _ 24 rfl w.heap.size 27 i0 (.agg #[.int .i64 0,.int .i64 0,.string ⟨#[]⟩,.string ⟨#[]⟩,.slice none 0 0,.slice none 0 0,.slice none 0 0]) 7 120 Tryz.underlying24 hi hz0 hz1 hz2 rfl (by decide) _ _ _ rfl ((HO2.out.alloc _).alloc _) ⟨w2.heap.size+1,0,none⟩ 1 1 [.int .i64 k,.int .i64 m,.string s,.string u,.slice A0 n0 m0,.slice A1 n1 m1,.slice A2 n2 m2] rfl rfl (cell_ex2 w2 _ _ _ _ _ _ _) (ex_one _ _ _ _ _ _ _ _ _ _ _ _ _) (by unfold maxLen;omega) (by omega) (by simp;omega) ?_;intro v' w4 hown' hgrow _ hat;obtain ⟨A3,c3,rfl⟩:=own_slice hown';have HO4:=Lib.hid hown';have HGr:=Lib.hid hgrow;have HAt:=Lib.hid hat;clear hown' hgrow hat)
   have HP4:=Lib.hid ((HP2.out.kept (grown_trans (World.grownBy_alloc w2 _ none) (World.grownBy_alloc _ _ none)) (by simp) (by simp)).kept HGr.out (own_ne2 HO2.out hbl) (own_ne2 HO2.out hgl))
   have HG4:=Lib.hid (grown_own2 (grown_trans HG2.out (grown_trans (World.grownBy_alloc w2 _ _) (World.grownBy_alloc _ _ _))) HGr.out (fun k hk=>own_from2 HO2.out hk))
   have hsa:Same (fun x=>(w.heap.size≤x∧some x≠(Value.slice A' kk c').ownBlock)∧x < w2.heap.size) w2 w4:=(Same.of_grown (grown_trans (World.grownBy_alloc w2 _ none) (World.grownBy_alloc _ _ none)) (fun x hx=>by simp)).trans (Same.of_grown HGr.out (fun x hx=>hx.1.2))
   have HTk:Hid (L.take (kk+1)=L.take kk++[x]):=Lib.hid (by rw [List.take_add_one,HX.out];rfl)
   have HC4:Hid (CellsE (fun x=>w.heap.size≤x∧some x≠(Value.slice A3 (kk+1) c3).ownBlock) w4 (L.take (kk+1)) (cl++[[.int .i64 k,.int .i64 m,.string s,.string u,.slice A0 n0 m0,.slice A1 n1 m1,.slice A2 n2 m2]])):=Lib.hid (by
    rw [HTk.out]
    refine ((HC2.out.keep hsa).snoc (HR2.out.keep hsa)).weaken fun y hy=>⟨hy.1.1,?_⟩
    rcases HAt.out with e | e
    ·rw [e];exact hy.1.2
    ·rw [e]
     intro e2
     have e3:=Option.some.inj e2
     have:=hy.2
     simp at e3
     omega)
   go_roundw
   case rel=>exact ⟨kk+1,A3,c3,_,by omega,by go_num,rfl,Lib.hid (by rw [List.flatten_append];simpa using HO4.out),HC4,HP4,HG4⟩
   case measure=>simp [slLen2];omega
  ·obtain rfl:kk=n:=by omega
   go_wp2_with fail
   go_ret
   refine .inl ?_
   have hcl:=hC.out.weaken (Q:=fun x=>w.heap.size≤x) (fun x hx=>hx.1)
   rw [List.take_of_length_le (by rw [← HN.out];exact Nat.le_refl _)] at hcl
   obtain ⟨l1,l2,l3⟩:=hcl.list HN.out hO.out
   exact ⟨A',c',by rw [← HN.out];rfl,l1,by rw [← HN.out];exact ⟨l2,l3⟩,hP.out,hG.out⟩
end Go.Proofs.YtpjabnemkmdobaaGreatDoor
namespace Go.Proofs.YtpjabnemkmdobaaGreatDoor
open Go.RowKit
def AmB (w:World)(g:Nat)(v0 v1 v2 v3 v4 v5 v6 v7 v8:Value):Prop:=w.heap[g]?=some (.cells #[v0,v1,v2,v3,v4,v5,v6,v7,v8] 57 (0,0))
section
variable {w w':World} {g:Nat} {v0 v1 v2 v3 v4 v5 v6 v7 v8:Value}
theorem AmB.lt (h:AmB w g v0 v1 v2 v3 v4 v5 v6 v7 v8):g < w.heap.size:=(Array.getElem?_eq_some_iff.1 h).1
theorem AmB.c0 (h:AmB w g v0 v1 v2 v3 v4 v5 v6 v7 v8):w.cell? ⟨g,0,none⟩=some v0:=cell_of_row w g 0 _ _ (0,0) h
theorem AmB.c1 (h:AmB w g v0 v1 v2 v3 v4 v5 v6 v7 v8):w.cell? ⟨g,1,none⟩=some v1:=cell_of_row w g 1 _ _ (0,0) h
theorem AmB.c2 (h:AmB w g v0 v1 v2 v3 v4 v5 v6 v7 v8):w.cell? ⟨g,2,none⟩=some v2:=cell_of_row w g 2 _ _ (0,0) h
theorem AmB.c3 (h:AmB w g v0 v1 v2 v3 v4 v5 v6 v7 v8):w.cell? ⟨g,3,none⟩=some v3:=cell_of_row w g 3 _ _ (0,0) h
theorem AmB.c4 (h:AmB w g v0 v1 v2 v3 v4 v5 v6 v7 v8):w.cell? ⟨g,4,none⟩=some v4:=cell_of_row w g 4 _ _ (0,0) h
theorem AmB.c5 (h:AmB w g v0 v1 v2 v3 v4 v5 v6 v7 v8):w.cell? ⟨g,5,none⟩=some v5:=cell_of_row w g 5 _ _ (0,0) h
theorem AmB.c6 (h:AmB w g v0 v1 v2 v3 v4 v5 v6 v7 v8):w.cell? ⟨g,6,none⟩=some v6:=cell_of_row w g 6 _ _ (0,0) h
theorem AmB.c7 (h:AmB w g v0 v1 v2 v3 v4 v5 v6 v7 v8):w.cell? ⟨g,7,none⟩=some v7:=cell_of_row w g 7 _ _ (0,0) h
theorem AmB.c8 (h:AmB w g v0 v1 v2 v3 v4 v5 v6 v7 v8):w.cell? ⟨g,8,none⟩=some v8:=cell_of_row w g 8 _ _ (0,0) h
theorem AmB.fr (h:AmB w g v0 v1 v2 v3 v4 v5 v6 v7 v8)(i:Nat):w.frozen? ⟨g,i,none⟩=false:=by
 unfold AmB at h;simp [World.frozen?,h]
theorem AmB.new (w:World)(v0 v1 v2 v3 v4 v5 v6 v7 v8:Value):AmB (w.alloc (.cells #[v0,v1,v2,v3,v4,v5,v6,v7,v8] 57)) w.heap.size v0 v1 v2 v3 v4 v5 v6 v7 v8:=heap_alloc_new w _
theorem AmB.kept (h:AmB w g v0 v1 v2 v3 v4 v5 v6 v7 v8){row:Option Nat}(hg:w.grownBy w' row)(hne:some g≠row):AmB w' g v0 v1 v2 v3 v4 v5 v6 v7 v8:=(hg.block g h.lt hne).trans h
def set9 (w:World)(g:Nat)(v0 v1 v2 v3 v4 v5 v6 v7 v8:Value):World:=((((((((w.setCell ⟨g,0,none⟩ v0).setCell ⟨g,1,none⟩ v1).setCell ⟨g,2,none⟩ v2).setCell ⟨g,3,none⟩ v3).setCell ⟨g,4,none⟩ v4).setCell ⟨g,5,none⟩ v5).setCell ⟨g,6,none⟩ v6).setCell ⟨g,7,none⟩ v7).setCell ⟨g,8,none⟩ v8
theorem AmB.all (h:AmB w g v0 v1 v2 v3 v4 v5 v6 v7 v8)(u0 u1 u2 u3 u4 u5 u6 u7 u8:Value):AmB (set9 w g u0 u1 u2 u3 u4 u5 u6 u7 u8) g u0 u1 u2 u3 u4 u5 u6 u7 u8:=by
 unfold AmB at h ⊢;unfold set9;simp [World.setCell,Array.getElem?_modify,h]
theorem set9_grown (w:World)(g:Nat)(v0 v1 v2 v3 v4 v5 v6 v7 v8:Value):w.grownBy (set9 w g v0 v1 v2 v3 v4 v5 v6 v7 v8) (some g) :=
 grown_trans (grown_trans (grown_trans (grown_trans (grown_trans (grown_trans (grown_trans (grown_trans (grown_set w ⟨g,0,none⟩ v0) (grown_set _ ⟨g,1,none⟩ v1)) (grown_set _ ⟨g,2,none⟩ v2)) (grown_set _ ⟨g,3,none⟩ v3)) (grown_set _ ⟨g,4,none⟩ v4)) (grown_set _ ⟨g,5,none⟩ v5)) (grown_set _ ⟨g,6,none⟩ v6)) (grown_set _ ⟨g,7,none⟩ v7)) (grown_set _ ⟨g,8,none⟩ v8)
end
theorem grown_9 {w W:World}{row:Option Nat}(h:w.grownBy W row){x:Nat}(hp:w.heap.size≤x)(v0 v1 v2 v3 v4 v5 v6 v7 v8:Value):w.grownBy (set9 W x v0 v1 v2 v3 v4 v5 v6 v7 v8) row :=
 grown_new (grown_new (grown_new (grown_new (grown_new (grown_new (grown_new (grown_new (grown_new h hp _) hp _) hp _) hp _) hp _) hp _) hp _) hp _) hp _
theorem res_armOf {tmps:Array Value}{w:World}{g:Nat}{v0 v1 v2 v3 v4 v5 v6 v7 v8:Value}(h2:tmps.getD 4 undef=.pointer (some ⟨g,0,none⟩))(h:AmB w g v0 v1 v2 v3 v4 v5 v6 v7 v8) :
  (results Tryz.f159 tmps).run Tryz.prog w=.ok (.agg #[v0,v1,v2,v3,v4,v5,v6,v7,v8]) w:=by
 have c0:=h.c0
 have c1:=h.c1
 have c2:=h.c2
 have c3:=h.c3
 have c4:=h.c4
 have c5:=h.c5
 have c6:=h.c6
 have c7:=h.c7
 have c8:=h.c8
 have h2':tmps[4]?.getD undef=.pointer (some ⟨g,0,none⟩):=by simpa using h2
 simp [results,Tryz.results159,go_sem,h2',c0,c1,c2,c3,c4,c5,c6,c7,c8]
def ArmTo (w:World)(b g go c:Nat)(ts:List Rt)(nx dp:Nat)(op:List UInt8)(ns:List (List UInt8))(ex:Ex)(e:Ending)(w':World):Prop :=
 ∃ (An:Option Addr) (cn:Nat) (k n:Int) (s t:ByteArray) (A0:Option Addr) (n0 c0:Nat) (A1:Option Addr) (n1 c1:Nat) (A2:Option Addr) (n2 c2:Nat),
  e=.returned (.agg #[.string (strB op),.slice An ns.length cn,.int .i64 k,.int .i64 n,.string s,.string t,.slice A0 n0 c0,.slice A1 n1 c1,.slice A2 n2 c2]) ∧
  NamesAt (fun x=>w.heap.size≤x) w' An ns∧(ns.length≤cn∧cn≤maxLen)∧RepE (fun x=>w.heap.size≤x) w' ex [.int .i64 k,.int .i64 n,.string s,.string t,.slice A0 n0 c0,.slice A1 n1 c1,.slice A2 n2 c2]∧Went w w' b g go c ts nx dp
set_option maxRecDepth 100000 in
set_option maxHeartbeats 2000000 in
theorem armOf_any {F:Prop}(b g go c:Nat)(ts:List Rt)(nx nx1 nx2 dp:Nat)(t1:Rt)(op:List UInt8)(ns:List (List UInt8))(e0:Ex)(w:World)(h:PS w b g go c ts nx dp)(ht1:ts[nx1]?=some t1)(hs1:t1.s=[45,62])(hlen:ts.length≤100000)
  (HL:Hid (∀ w',w.grownBy w' (some b)→PS w' b g go c ts nx dp→Calls Tryz.prog 166 #[.pointer (some ⟨b,0,none⟩)] w' (NamesTo w' b g go c ts nx1 dp ns)))
  (HX:Hid (∀ w',w.grownBy w' (some b)→PS w' b g go c ts (nx1+1) dp→Calls Tryz.prog 20 #[.pointer (some ⟨b,0,none⟩)] w' (OF F w' b g go c ts (ExprTo w' b g go c ts nx2 dp e0)))) :
  Calls Tryz.prog 159 #[.pointer (some ⟨b,0,none⟩),.string (strB op)] w (OF F w b g go c ts (ArmTo w b g go c ts nx2 dp op ns e0)):=by
 have HN:=Lib.hid (fun w h=>need_ok b g go c ts nx1 dp t1 ⟨#[45,62]⟩ w h ht1 hs1 hlen)
 have H:=Lib.hid h
 have hbl:=h.blt
 have hgl:=h.lt
 obtain ⟨S,hS⟩:∃ S,S=strB op:=⟨_,rfl⟩
 rw [← hS]
 have HSe:=Lib.hid hS
 clear h ht1 hs1 hlen hS
 go_enter Tryz.func159,Tryz.ntmps159
 go_wp2_with fail
 have H0:=Lib.hid (H.out.below ((Below.refl w.heap.size w).alloc (Nat.le_refl _) (.cells #[.string ⟨#[]⟩,.slice none 0 0,.int .i64 0,.int .i64 0,.string ⟨#[]⟩,.string ⟨#[]⟩,.slice none 0 0,.slice none 0 0,.slice none 0 0] 57)))
 have HE0:=Lib.hid (AmB.new w (.string ⟨#[]⟩) (.slice none 0 0) (.int .i64 0) (.int .i64 0) (.string ⟨#[]⟩) (.string ⟨#[]⟩) (.slice none 0 0) (.slice none 0 0) (.slice none 0 0))
 have HG0:=Lib.hid (World.grownBy_alloc w (.cells #[.string ⟨#[]⟩,.slice none 0 0,.int .i64 0,.int .i64 0,.string ⟨#[]⟩,.string ⟨#[]⟩,.slice none 0 0,.slice none 0 0,.slice none 0 0] 57) (some b))
 refine (HL.out _ HG0.out H0.out).mono ?_
 rintro e w1 ⟨An,cn,rfl,hnm,hcn,hw⟩
 have H1:=Lib.hid hw.1
 have HE1:=Lib.hid (HE0.out.kept hw.2 (by simp;omega))
 have HG1:=Lib.hid (grown_trans HG0.out hw.2)
 have HN1:=Lib.hid (hnm.weaken (Q:=fun x=>w.heap.size < x) (fun x hx=>by simp at hx;omega))
 have HCn:=Lib.hid hcn
 have hz1:w.heap.size < w1.heap.size:=HE1.out.lt
 clear hw hnm hcn HL
 go_wp2_with fail
 refine (HN.out _ H1.out).mono ?_
 rintro e w2 ⟨rfl,hw⟩
 have H2:=Lib.hid hw.1
 have HE2:=Lib.hid (HE1.out.kept hw.2 (by simp;omega))
 have HG2:=Lib.hid (grown_trans HG1.out hw.2)
 have HN2:=Lib.hid (HN1.out.keep (Same.of_grown hw.2 (fun x hx=>by simp;omega)))
 have hz2:w.heap.size < w2.heap.size:=HE2.out.lt
 clear hw
 go_wp2_with fail
 refine (HX.out _ HG2.out H2.out).mono ?_
 rintro e w3 (⟨k,n,s,u,A0,n0,m0,A1,n1,m1,A2,n2,m2,rfl,hr,hw⟩ | ⟨hF,nxF,hnF,rfl,dpF,hpF,hgF⟩)
 rotate_left
 ·exact ⟨rfl,.inr ⟨hF,nxF,hnF,rfl,dpF,hpF,grown_trans HG2.out hgF⟩⟩
 have H3:=Lib.hid hw.1
 have HE3:=Lib.hid (HE2.out.kept hw.2 (by simp;omega))
 have HG3:=Lib.hid (grown_trans HG2.out hw.2)
 have HN3:=Lib.hid (HN2.out.keep (Same.of_grown hw.2 (fun x hx=>by simp;omega)))
 have HR3:=Lib.hid (hr.weaken (Q:=fun x=>w.heap.size < x) (fun x hx=>by omega))
 have HE5:=HE3
 have hz3:w.heap.size < w3.heap.size:=HE3.out.lt
 have ee0:=HE5.out.c0
 have r0:=HE5.out.fr 0
 have ee1:=HE5.out.c1
 have r1:=HE5.out.fr 1
 have ee2:=HE5.out.c2
 have r2:=HE5.out.fr 2
 have ee3:=HE5.out.c3
 have r3:=HE5.out.fr 3
 have ee4:=HE5.out.c4
 have r4:=HE5.out.fr 4
 have ee5:=HE5.out.c5
 have r5:=HE5.out.fr 5
 have ee6:=HE5.out.c6
 have r6:=HE5.out.fr 6
 have ee7:=HE5.out.c7
 have r7:=HE5.out.fr 7
 have ee8:=HE5.out.c8
 have r8:=HE5.out.fr 8
 have q1:¬ w.heap.size=w3.heap.size:=by omega
 have q2:¬ w3.heap.size=w.heap.size:=by omega
 clear hw hr HX
 go_wp2_with fail
 have hgs:∀ W:World,W.grownBy W none:=fun W=>⟨rfl,rfl,rfl,Nat.le_refl _,fun _ _ _=>rfl⟩
 exact bodyPost_retF (res_armOf rfl ((HE3.out.all _ _ _ _ _ _ _ _ _).kept (World.grownBy_alloc _ _ none) (by simp))) rfl ⟨An,cn,k,n,s,u,A0,n0,m0,A1,n1,m1,A2,n2,m2,by rw [HSe.out],
  (((HN3.out.keep (Same.of_grown (set9_grown _ _ _ _ _ _ _ _ _ _ _) (fun x hx=>by simp;omega))).keep (Same.of_grown (World.grownBy_alloc _ _ none) (fun _ _=>by simp))).weaken (fun x hx=>by omega)),HCn.out,
  (((HR3.out.keep (Same.of_grown (set9_grown _ _ _ _ _ _ _ _ _ _ _) (fun x hx=>by simp;omega))).keep (Same.of_grown (World.grownBy_alloc _ _ none) (fun _ _=>by simp))).weaken (fun x hx=>by omega)),
  (H3.out.kept (set9_grown _ _ _ _ _ _ _ _ _ _ _) (by simp;omega) (by simp;omega)).kept (World.grownBy_alloc _ _ none) (by simp) (by simp),grown_trans (grown_9 HG3.out (Nat.le_refl _) _ _ _ _ _ _ _ _ _) (World.grownBy_alloc _ _ _)⟩
end Go.Proofs.YtpjabnemkmdobaaGreatDoor
namespace Go.Proofs.YtpjabnemkmdobaaGreatDoor
open Go.RowKit
set_option maxRecDepth 100000 in
set_option maxHeartbeats 4000000 in
theorem head_at {F:Prop}(b g go c:Nat)(ts:List Rt)(nx nx1 dp:Nat)(t:Rt)(e0:Ex)(w:World)(h:PS w b g go c ts nx dp)(ht:ts[nx]?=some t)(hk:t.k=0)(hn:NoHead t)(t2:Rt)(ht2:ts[nx+1]?=some t2)(hd:t2.s=[46])(t3:Rt)(ht3:ts[nx+1+1]?=some t3)(hk3:t3.k=0)(hlen:ts.length≤100000)(hok:okS t.s∧okS t3.s)
  (HA:Hid (∀ w',w.grownBy w' (some b)→PS w' b g go c ts (nx+1+1+1) dp→Calls Tryz.prog 118 #[.pointer (some ⟨b,0,none⟩)] w' (OF F w' b g go c ts (ExprTo w' b g go c ts nx1 dp e0)))) :
  Calls Tryz.prog 116 #[.pointer (some ⟨b,0,none⟩)] w (OF F w b g go c ts (ExprTo w b g go c ts nx1 dp (.mk 13 0 t.s t3.s [] [e0] [] []))):=by
 have HLa:=Lib.hid (fun w h=>lower_ok b g go c ts nx dp t w h ht hk hlen)
 have HNd:=Lib.hid (fun w h=>need_ok b g go c ts (nx+1) dp t2 ⟨#[46]⟩ w h ht2 hd hlen)
 have HLb:=Lib.hid (fun w h=>lower_ok b g go c ts (nx+1+1) dp t3 w h ht3 hk3 hlen)
 obtain ⟨Sa,hSa⟩:∃ Sa,Sa=strB t.s:=⟨_,rfl⟩
 obtain ⟨Sb,hSb⟩:∃ Sb,Sb=strB t3.s:=⟨_,rfl⟩
 have HOn:Hid (∀ w',w.grownBy w' (some b)→PS w' b g go c ts (nx+1+1+1) dp→Calls Tryz.prog 140 #[.pointer (some ⟨b,0,none⟩),.agg #[.int .i64 13,.int .i64 0,.string Sa,.string Sb,.slice none 0 0,.slice none 0 0,.slice none 0 0]] w' (OF F w' b g go c ts (ExprTo w' b g go c ts nx1 dp (.mk 13 0 t.s t3.s [] [e0] [] [])))):=Lib.hid (fun w' hg hp=>by
  rw [hSa,hSb]
  exact onAtom_any b g go c ts _ nx1 dp 13 0 t.s t3.s e0 w' hp ⟨okN_small (by omega),okN_small (by omega),hok.1,hok.2⟩ (Lib.hid fun w2 hg2 hp2=>HA.out w2 (grown_trans hg hg2) hp2))
 rw [← hSa] at HLa
 rw [← hSb] at HLb
 obtain ⟨lf,hlf⟩:∃ lf,lf=Ex.mk 13 0 t.s t3.s [] [e0] [] []:=⟨_,rfl⟩
 rw [← hlf] at HOn ⊢
 clear hSa hSb hok HA ht3 hk3
 have hbl:=h.blt
 have hgl:=h.lt
 have HP:=Lib.hid (fun w h=>peek_any b g go c ts nx dp t w h ht)
 have HS:Hid (∀ (s:ByteArray) w,PS w b g go c ts nx dp→t.s≠s.data.toList→Calls Tryz.prog 114 #[.pointer (some ⟨b,0,none⟩),.string s] w fun e w'=>e=.returned (.bool false)∧Below w.heap.size w w'):=fun s w h h2=>skip_no b g go c ts nx dp t s w h ht h2
 have HN:=Lib.hid hn
 obtain ⟨T,hT⟩:∃ T,T=strB t2.s:=⟨_,rfl⟩
 have hT2:(T.toList == [46])=true:=by rw [hT,ByteArray.toList_eq,data_strB];simpa using hd
 have HD:Hid (∀ w,PS w b g go c ts nx dp→w.cell? ⟨g,go+(nx+1)*4+1,none⟩=some (.string T)):=fun w h=>by rw [hT];exact h.tok _ _ ht2 1 _ rfl
 have hlt2:=(List.getElem?_eq_some_iff.1 ht2).1
 have i0:(0:Int)≤(nx:Int)+1:=by omega
 have i1:(nx:Int)+1 < (ts.length:Int):=by omega
 have i2:((nx:Int)+1).toNat=nx+1:=by omega
 have i3:(nx:Int)+1≤100000:=by omega
 clear hT hd ht2 hlt2
 have H:=Lib.hid h
 have fl0:=tfield0
 obtain ⟨tk,tss,tn,tp⟩:=t
 simp only at hk HP HS HN
 subst hk
 obtain ⟨S,hS⟩:∃ S,S=strB tss:=⟨_,rfl⟩
 rw [← hS] at HP
 clear h ht hn hlf hS
 go_enter Tryz.func116,Tryz.ntmps116
 go_wp2_with fail
 have H1:Hid (PS (w.alloc (.cells #[.int .i64 0,.int .i64 0,.string ⟨#[]⟩,.string ⟨#[]⟩,.slice none 0 0,.slice none 0 0,.slice none 0 0] 27)) b g go c ts nx dp):=H.out.below ((Below.refl _ _).alloc (Nat.le_refl _) _)
 have HE1:=Lib.hid (EB.new w (.int .i64 0) (.int .i64 0) (.string ⟨#[]⟩) (.string ⟨#[]⟩) (.slice none 0 0) (.slice none 0 0) (.slice none 0 0))
 have HG1:Hid (w.grownBy _ none):=World.grownBy_alloc w (.cells #[.int .i64 0,.int .i64 0,.string ⟨#[]⟩,.string ⟨#[]⟩,.slice none 0 0,.slice none 0 0,.slice none 0 0] 27) none
 refine (HS.out _ _ H1.out HN.out.1).mono ?_;rintro e w2 ⟨rfl,hb⟩
 have H2:=Lib.hid (H1.out.below hb)
 have HE2:=Lib.hid (HE1.out.kept (grown_below hb none) (by simp))
 have HG2:=Lib.hid (grown_trans HG1.out (grown_below hb none))
 clear hb H1 HE1 HG1
 go_wp2_with fail
 refine (HS.out _ _ H2.out HN.out.2.1).mono ?_;rintro e w3 ⟨rfl,hb⟩
 have H3:=Lib.hid (H2.out.below hb)
 have HE3:=Lib.hid (HE2.out.kept (grown_below hb none) (by simp))
 have HG3:=Lib.hid (grown_trans HG2.out (grown_below hb none))
 clear hb H2 HE2 HG2
 go_wp2_with fail
 refine (HS.out _ _ H3.out HN.out.2.2.1).mono ?_;rintro e w4 ⟨rfl,hb⟩
 have H4:=Lib.hid (H3.out.below hb)
 have HE4:=Lib.hid (HE3.out.kept (grown_below hb none) (by simp))
 have HG4:=Lib.hid (grown_trans HG3.out (grown_below hb none))
 clear hb H3 HE3 HG3
 go_wp2_with fail
 refine (HS.out _ _ H4.out HN.out.2.2.2).mono ?_;rintro e w5 ⟨rfl,hb⟩
 have H5:=Lib.hid (H4.out.below hb)
 have HE5:=Lib.hid (HE4.out.kept (grown_below hb none) (by simp))
 have HG5:=Lib.hid (grown_trans HG4.out (grown_below hb none))
 clear hb H4 HE4 HG4
 go_wp2_with fail
 refine wp_region_any (by kernel_rfl) ?_
 change wpAny _ _ _ _ _ _ _ (World.drew _)
 refine take1 (i:=0) (d:=58) (v:=.pointer (some ⟨b,0,none⟩)) rfl rfl (by kernel_rfl) (by kernel_rfl) (by kernel_rfl) (fun _ _ _ h=>h) (Or.inl ⟨by kernel_rfl,fun _=>by kernel_rfl⟩) ?_
 refine take1 (i:=1) (d:=59) (v:=.pointer (some ⟨b,0,none⟩)) rfl rfl (by kernel_rfl) (by kernel_rfl) (by kernel_rfl) (fun _ _ _ h=>h) (Or.inl ⟨by kernel_rfl,fun _=>by kernel_rfl⟩) ?_
 refine take1 (i:=2) (d:=60) (v:=.pointer (some ⟨b,0,none⟩)) rfl rfl (by kernel_rfl) (by kernel_rfl) (by kernel_rfl) (fun _ _ _ h=>h) (Or.inl ⟨by kernel_rfl,fun _=>by kernel_rfl⟩) ?_
 refine wpAny_ready (rs:=[3]) (by kernel_rfl) (by simp) (AllReady.cons rfl (fun K hK=>?_) AllReady.nil)
 go_simp
 refine (HP.out _ (H5.out.drewN 1)).mono ?_;rintro e w6 ⟨rfl,hb⟩
 have H6:=Lib.hid ((H5.out.drewN 1).below hb)
 have HE6:=Lib.hid (HE5.out.kept (grown_trans (grown_drewN w5 1 none) (grown_below hb none)) (by simp))
 have HG6:=Lib.hid (grown_trans HG5.out (grown_trans (grown_drewN w5 1 none) (grown_below hb none)))
 clear hb
 refine hK _ _ ?_
 clear hK K
 have c0:=H6.out.c0
 have c1:=H6.out.c1
 have d1:=HD.out _ H6.out
 have hwrap:IntKind.i64.wrap ((nx:Int)+1)=(nx:Int)+1:=IntWalk.i64_in _ (by omega)
 refine take1 (i:=4) (d:=62) (v:=.int .i64 0) rfl rfl (by kernel_rfl) (by kernel_rfl) (by kernel_rfl) (fun _ _ _ h=>h) (Or.inl ⟨by kernel_rfl,fun _=>by kernel_rfl⟩) ?_
 refine take1 (i:=5) (d:=63) (v:=.bool true) rfl rfl (by kernel_rfl) (by kernel_rfl) (by kernel_rfl) (fun _ _ _ h=>h) (Or.inl ⟨by kernel_rfl,fun _=>by kernel_rfl⟩) ?_
 refine take1 (i:=6) (d:=64) (v:=.bool true) rfl rfl (by kernel_rfl) (by kernel_rfl) (by kernel_rfl) (fun _ _ _ h=>h) (Or.inl ⟨by kernel_rfl,fun _=>by kernel_rfl⟩) ?_
 refine take1 (i:=7) (d:=65) (v:=.pointer (some ⟨b,0,none⟩)) rfl rfl (by kernel_rfl) (by kernel_rfl) (by kernel_rfl) (fun _ _ _ h=>h) (Or.inl ⟨by kernel_rfl,fun _=>by kernel_rfl⟩) ?_
 refine take1 (i:=8) (d:=66) (v:=.pointer (some ⟨b,0,none⟩)) rfl rfl (by kernel_rfl) (by kernel_rfl) (by kernel_rfl) (fun _ _ _ h=>h) (Or.inl ⟨by kernel_rfl,fun _=>by kernel_rfl⟩) ?_
 refine take1 (i:=9) (d:=67) (v:=.pointer (some ⟨b,0,none⟩)) rfl rfl (by kernel_rfl) (by kernel_rfl) (by kernel_rfl) (fun _ _ _ h=>h) (Or.inl ⟨by kernel_rfl,fun _=>by kernel_rfl⟩) ?_
 refine take1 (i:=10) (d:=68) (v:=.pointer (some ⟨b,0,none⟩)) rfl rfl (by kernel_rfl) (by kernel_rfl) (by kernel_rfl) (fun _ _ _ h=>h) (Or.inl ⟨by kernel_rfl,fun _=>by kernel_rfl⟩) ?_
 refine take1 (i:=12) (d:=70) (v:=.pointer (some ⟨b,0,none⟩)) rfl rfl (by kernel_rfl) (by kernel_rfl) (by kernel_rfl) (fun _ _ _ h=>h) (Or.inl ⟨by kernel_rfl,fun _=>by kernel_rfl⟩) ?_
 refine take1 (i:=13) (d:=71) (v:=.pointer (some ⟨b,0,none⟩)) rfl rfl (by kernel_rfl) (by kernel_rfl) (by kernel_rfl) (fun _ _ _ h=>h) (Or.inl ⟨by kernel_rfl,fun _=>by kernel_rfl⟩) ?_
 refine take1 (i:=14) (d:=72) (v:=.pointer (some ⟨b,0,none⟩)) rfl rfl (by kernel_rfl) (by kernel_rfl) (by kernel_rfl) (fun _ _ _ h=>h) (Or.inl ⟨by kernel_rfl,fun _=>by kernel_rfl⟩) ?_
 refine take1 (i:=15) (d:=73) (v:=.pointer (some ⟨b,1,none⟩)) rfl rfl (by kernel_rfl) (by kernel_rfl) (by kernel_rfl) (fun _ _ _ h=>h) (Or.inl ⟨by kernel_rfl,fun _=>by kernel_rfl⟩) ?_
 simp only [List.setIfInBounds_toArray,List.set_cons_succ,List.set_cons_zero]
 refine wpAny_ready (rs:=[11,16]) (by kernel_rfl) (by simp) (AllReady.cons rfl (fun K hK=>?_) (AllReady.cons rfl (fun K hK=>?_) AllReady.nil))
 all_goals
  go_simp
  refine hK _ _ ?_
  clear hK K
 ·refine wpAny_ready (rs:=[16]) (by kernel_rfl) (by simp) (AllReady.cons rfl (fun K hK=>?_) AllReady.nil)
  go_simp
  refine hK _ _ ?_
  clear hK K
  refine wpAny_ready (rs:=[17]) (by kernel_rfl) (by simp) (AllReady.cons rfl (fun K hK=>?_) AllReady.nil)
  go_simp
  refine hK _ _ ?_
  clear hK K
  refine wpAny_ready (rs:=[18]) (by kernel_rfl) (by simp) (AllReady.cons rfl (fun K hK=>?_) AllReady.nil)
  go_simp
  refine hK _ _ ?_
  clear hK K
  refine wpAny_ready (rs:=[19]) (by kernel_rfl) (by simp) (AllReady.cons rfl (fun K hK=>?_) AllReady.nil)
  go_simp
  refine hK _ _ ?_
  clear hK K
  refine wpAny_ready (rs:=[20]) (by kernel_rfl) (by simp) (AllReady.cons rfl (fun K hK=>?_) AllReady.nil)
  go_simp
  refine hK _ _ ?_
  clear hK K
  refine wpAny_ready (rs:=[21]) (by kernel_rfl) (by simp) (AllReady.cons rfl (fun K hK=>?_) AllReady.nil)
  go_simp
  refine hK _ _ ?_
  clear hK K
  refine wpAny_ready (rs:=[22]) (by kernel_rfl) (by simp) (AllReady.cons rfl (fun K hK=>?_) AllReady.nil)
  go_simp
  refine hK _ _ ?_
  clear hK K
  refine wpAny_ready (rs:=[23]) (by kernel_rfl) (by simp) (AllReady.cons rfl (fun K hK=>?_) AllReady.nil)
  go_simp
  refine hK _ _ ?_
  clear hK K
  clear hwrap i0 i1 i2 i3 c0 c1 d1 fl0
  refine wpAny_done (by kernel_rfl) ?_ _
  go_wp2_with fail
  have K0:=H6
  have hg6:w.grownBy w6 (some b):=Below.grownBy' HG6.out
  have HGs:=Lib.hid hg6
  clear hg6
  refine (HLa.out _ K0.out).mono ?_
  rintro e u1 ⟨rfl,hw⟩
  have K1:=Lib.hid hw.1
  have hz6:w.heap.size < w6.heap.size:=HE6.out.lt
  have HEa:=Lib.hid (HE6.out.kept hw.2 (by simp;omega))
  have HGa:=Lib.hid (grown_trans HGs.out hw.2)
  clear hw
  go_wp2_with fail
  refine (HNd.out _ K1.out).mono ?_
  rintro e u2 ⟨rfl,hw⟩
  have K2:=Lib.hid hw.1
  have HEb:=Lib.hid (HEa.out.kept hw.2 (by simp;omega))
  have HGb:=Lib.hid (grown_trans HGa.out hw.2)
  clear hw
  go_wp2_with fail
  refine (HLb.out _ K2.out).mono ?_
  rintro e u3 ⟨rfl,hw⟩
  have K3:=Lib.hid hw.1
  have HEc:=Lib.hid (HEb.out.kept hw.2 (by simp;omega))
  have HGc:=Lib.hid (grown_trans HGb.out hw.2)
  clear hw
  go_wp2_with fail
  refine (HOn.out _ HGc.out K3.out).mono ?_
  rintro e w7 (⟨k,n,s,t,A0,n0,m0,A1,n1,m1,A2,n2,m2,rfl,hr,hw⟩ | ⟨hF,nxF,hnF,rfl,dpF,hpF,hgF⟩)
  rotate_left
  ·exact ⟨rfl,.inr ⟨hF,nxF,hnF,rfl,dpF,hpF,grown_trans HGc.out hgF⟩⟩
  have HR:=Lib.hid hr
  have HP7:=Lib.hid hw.1
  have HG7:=Lib.hid (grown_trans HGc.out hw.2)
  have hzc:w.heap.size < u3.heap.size:=HEc.out.lt
  have HE7:=Lib.hid (HEc.out.kept hw.2 (by simp;omega))
  have e0:=HE7.out.c0
  have e1:=HE7.out.c1
  have e2:=HE7.out.c2
  have e3:=HE7.out.c3
  have e4:=HE7.out.c4
  have e5:=HE7.out.c5
  have e6:=HE7.out.c6
  have r0:=HE7.out.fr 0
  have r1:=HE7.out.fr 1
  have r2:=HE7.out.fr 2
  have r3:=HE7.out.fr 3
  have r4:=HE7.out.fr 4
  have r5:=HE7.out.fr 5
  have r6:=HE7.out.fr 6
  clear hr hw
  go_wp2_with fail
  exact bodyPost_retF (res_head rfl (HE7.out.all (.int .i64 k) (.int .i64 n) (.string s) (.string t) (.slice A0 n0 m0) (.slice A1 n1 m1) (.slice A2 n2 m2))) rfl
   ⟨k,n,s,t,A0,n0,m0,A1,n1,m1,A2,n2,m2,rfl,(HR.out.keep (Same.of_grown (set7_grown _ _ _ _ _ _ _ _ _) (fun x hx=>by simp;omega))).weaken (fun x hx=>by omega),
    HP7.out.kept (set7_grown _ _ _ _ _ _ _ _ _) (by simp;omega) (by simp;omega),grown_7 HG7.out (Nat.le_refl _) _ _ _ _ _ _ _⟩
 ·refine wpAny_ready (rs:=[11,17]) (by kernel_rfl) (by simp) (AllReady.cons rfl (fun K hK=>?_) (AllReady.cons rfl (fun K hK=>?_) AllReady.nil))
  all_goals
   go_simp
   refine hK _ _ ?_
   clear hK K
  ·refine wpAny_ready (rs:=[17]) (by kernel_rfl) (by simp) (AllReady.cons rfl (fun K hK=>?_) AllReady.nil)
   go_simp
   refine hK _ _ ?_
   clear hK K
   refine wpAny_ready (rs:=[18]) (by kernel_rfl) (by simp) (AllReady.cons rfl (fun K hK=>?_) AllReady.nil)
   go_simp
   refine hK _ _ ?_
   clear hK K
   refine wpAny_ready (rs:=[19]) (by kernel_rfl) (by simp) (AllReady.cons rfl (fun K hK=>?_) AllReady.nil)
   go_simp
   refine hK _ _ ?_
   clear hK K
   refine wpAny_ready (rs:=[20]) (by kernel_rfl) (by simp) (AllReady.cons rfl (fun K hK=>?_) AllReady.nil)
   go_simp
   refine hK _ _ ?_
   clear hK K
   refine wpAny_ready (rs:=[21]) (by kernel_rfl) (by simp) (AllReady.cons rfl (fun K hK=>?_) AllReady.nil)
   go_simp
   refine hK _ _ ?_
   clear hK K
   refine wpAny_ready (rs:=[22]) (by kernel_rfl) (by simp) (AllReady.cons rfl (fun K hK=>?_) AllReady.nil)
   go_simp
   refine hK _ _ ?_
   clear hK K
   refine wpAny_ready (rs:=[23]) (by kernel_rfl) (by simp) (AllReady.cons rfl (fun K hK=>?_) AllReady.nil)
   go_simp
   refine hK _ _ ?_
   clear hK K
   clear hwrap i0 i1 i2 i3 c0 c1 d1 fl0
   refine wpAny_done (by kernel_rfl) ?_ _
   go_wp2_with fail
   have K0:=H6
   have hg6:w.grownBy w6 (some b):=Below.grownBy' HG6.out
   have HGs:=Lib.hid hg6
   clear hg6
   refine (HLa.out _ K0.out).mono ?_
   rintro e u1 ⟨rfl,hw⟩
   have K1:=Lib.hid hw.1
   have hz6:w.heap.size < w6.heap.size:=HE6.out.lt
   have HEa:=Lib.hid (HE6.out.kept hw.2 (by simp;omega))
   have HGa:=Lib.hid (grown_trans HGs.out hw.2)
   clear hw
   go_wp2_with fail
   refine (HNd.out _ K1.out).mono ?_
   rintro e u2 ⟨rfl,hw⟩
   have K2:=Lib.hid hw.1
   have HEb:=Lib.hid (HEa.out.kept hw.2 (by simp;omega))
   have HGb:=Lib.hid (grown_trans HGa.out hw.2)
   clear hw
   go_wp2_with fail
   refine (HLb.out _ K2.out).mono ?_
   rintro e u3 ⟨rfl,hw⟩
   have K3:=Lib.hid hw.1
   have HEc:=Lib.hid (HEb.out.kept hw.2 (by simp;omega))
   have HGc:=Lib.hid (grown_trans HGb.out hw.2)
   clear hw
   go_wp2_with fail
   refine (HOn.out _ HGc.out K3.out).mono ?_
   rintro e w7 (⟨k,n,s,t,A0,n0,m0,A1,n1,m1,A2,n2,m2,rfl,hr,hw⟩ | ⟨hF,nxF,hnF,rfl,dpF,hpF,hgF⟩)
   rotate_left
   ·exact ⟨rfl,.inr ⟨hF,nxF,hnF,rfl,dpF,hpF,grown_trans HGc.out hgF⟩⟩
   have HR:=Lib.hid hr
   have HP7:=Lib.hid hw.1
   have HG7:=Lib.hid (grown_trans HGc.out hw.2)
   have hzc:w.heap.size < u3.heap.size:=HEc.out.lt
   have HE7:=Lib.hid (HEc.out.kept hw.2 (by simp;omega))
   have e0:=HE7.out.c0
   have e1:=HE7.out.c1
   have e2:=HE7.out.c2
   have e3:=HE7.out.c3
   have e4:=HE7.out.c4
   have e5:=HE7.out.c5
   have e6:=HE7.out.c6
   have r0:=HE7.out.fr 0
   have r1:=HE7.out.fr 1
   have r2:=HE7.out.fr 2
   have r3:=HE7.out.fr 3
   have r4:=HE7.out.fr 4
   have r5:=HE7.out.fr 5
   have r6:=HE7.out.fr 6
   clear hr hw
   go_wp2_with fail
   exact bodyPost_retF (res_head rfl (HE7.out.all (.int .i64 k) (.int .i64 n) (.string s) (.string t) (.slice A0 n0 m0) (.slice A1 n1 m1) (.slice A2 n2 m2))) rfl
    ⟨k,n,s,t,A0,n0,m0,A1,n1,m1,A2,n2,m2,rfl,(HR.out.keep (Same.of_grown (set7_grown _ _ _ _ _ _ _ _ _) (fun x hx=>by simp;omega))).weaken (fun x hx=>by omega),
     HP7.out.kept (set7_grown _ _ _ _ _ _ _ _ _) (by simp;omega) (by simp;omega),grown_7 HG7.out (Nat.le_refl _) _ _ _ _ _ _ _⟩
  ·refine wpAny_ready (rs:=[11]) (by kernel_rfl) (by simp) (AllReady.cons rfl (fun K hK=>?_) AllReady.nil)
   go_simp
   refine hK _ _ ?_
   clear hK K
   refine wpAny_ready (rs:=[18]) (by kernel_rfl) (by simp) (AllReady.cons rfl (fun K hK=>?_) AllReady.nil)
   go_simp
   refine hK _ _ ?_
   clear hK K
   refine wpAny_ready (rs:=[19]) (by kernel_rfl) (by simp) (AllReady.cons rfl (fun K hK=>?_) AllReady.nil)
   go_simp
   refine hK _ _ ?_
   clear hK K
   refine wpAny_ready (rs:=[20]) (by kernel_rfl) (by simp) (AllReady.cons rfl (fun K hK=>?_) AllReady.nil)
   go_simp
   refine hK _ _ ?_
   clear hK K
   refine wpAny_ready (rs:=[21]) (by kernel_rfl) (by simp) (AllReady.cons rfl (fun K hK=>?_) AllReady.nil)
   go_simp
   refine hK _ _ ?_
   clear hK K
   refine wpAny_ready (rs:=[22]) (by kernel_rfl) (by simp) (AllReady.cons rfl (fun K hK=>?_) AllReady.nil)
   go_simp
   refine hK _ _ ?_
   clear hK K
   refine wpAny_ready (rs:=[23]) (by kernel_rfl) (by simp) (AllReady.cons rfl (fun K hK=>?_) AllReady.nil)
   go_simp
   refine hK _ _ ?_
   clear hK K
   clear hwrap i0 i1 i2 i3 c0 c1 d1 fl0
   refine wpAny_done (by kernel_rfl) ?_ _
   go_wp2_with fail
   have K0:=H6
   have hg6:w.grownBy w6 (some b):=Below.grownBy' HG6.out
   have HGs:=Lib.hid hg6
   clear hg6
   refine (HLa.out _ K0.out).mono ?_
   rintro e u1 ⟨rfl,hw⟩
   have K1:=Lib.hid hw.1
   have hz6:w.heap.size < w6.heap.size:=HE6.out.lt
   have HEa:=Lib.hid (HE6.out.kept hw.2 (by simp;omega))
   have HGa:=Lib.hid (grown_trans HGs.out hw.2)
   clear hw
   go_wp2_with fail
   refine (HNd.out _ K1.out).mono ?_
   rintro e u2 ⟨rfl,hw⟩
   have K2:=Lib.hid hw.1
   have HEb:=Lib.hid (HEa.out.kept hw.2 (by simp;omega))
   have HGb:=Lib.hid (grown_trans HGa.out hw.2)
   clear hw
   go_wp2_with fail
   refine (HLb.out _ K2.out).mono ?_
   rintro e u3 ⟨rfl,hw⟩
   have K3:=Lib.hid hw.1
   have HEc:=Lib.hid (HEb.out.kept hw.2 (by simp;omega))
   have HGc:=Lib.hid (grown_trans HGb.out hw.2)
   clear hw
   go_wp2_with fail
   refine (HOn.out _ HGc.out K3.out).mono ?_
   rintro e w7 (⟨k,n,s,t,A0,n0,m0,A1,n1,m1,A2,n2,m2,rfl,hr,hw⟩ | ⟨hF,nxF,hnF,rfl,dpF,hpF,hgF⟩)
   rotate_left
   ·exact ⟨rfl,.inr ⟨hF,nxF,hnF,rfl,dpF,hpF,grown_trans HGc.out hgF⟩⟩
   have HR:=Lib.hid hr
   have HP7:=Lib.hid hw.1
   have HG7:=Lib.hid (grown_trans HGc.out hw.2)
   have hzc:w.heap.size < u3.heap.size:=HEc.out.lt
   have HE7:=Lib.hid (HEc.out.kept hw.2 (by simp;omega))
   have e0:=HE7.out.c0
   have e1:=HE7.out.c1
   have e2:=HE7.out.c2
   have e3:=HE7.out.c3
   have e4:=HE7.out.c4
   have e5:=HE7.out.c5
   have e6:=HE7.out.c6
   have r0:=HE7.out.fr 0
   have r1:=HE7.out.fr 1
   have r2:=HE7.out.fr 2
   have r3:=HE7.out.fr 3
   have r4:=HE7.out.fr 4
   have r5:=HE7.out.fr 5
   have r6:=HE7.out.fr 6
   clear hr hw
   go_wp2_with fail
   exact bodyPost_retF (res_head rfl (HE7.out.all (.int .i64 k) (.int .i64 n) (.string s) (.string t) (.slice A0 n0 m0) (.slice A1 n1 m1) (.slice A2 n2 m2))) rfl
    ⟨k,n,s,t,A0,n0,m0,A1,n1,m1,A2,n2,m2,rfl,(HR.out.keep (Same.of_grown (set7_grown _ _ _ _ _ _ _ _ _) (fun x hx=>by simp;omega))).weaken (fun x hx=>by omega),
     HP7.out.kept (set7_grown _ _ _ _ _ _ _ _ _) (by simp;omega) (by simp;omega),grown_7 HG7.out (Nat.le_refl _) _ _ _ _ _ _ _⟩
theorem res_x1 {tmps:Array Value}{w:World}{g:Nat}{v0 v1 v2 v3 v4 v5 v6:Value}(h2:tmps.getD 1 undef=.pointer (some ⟨g,0,none⟩))(h:EB w g v0 v1 v2 v3 v4 v5 v6) :
  (results Tryz.f55 tmps).run Tryz.prog w=.ok (.agg #[v0,v1,v2,v3,v4,v5,v6]) w:=by
 have c0:=h.c0
 have c1:=h.c1
 have c2:=h.c2
 have c3:=h.c3
 have c4:=h.c4
 have c5:=h.c5
 have c6:=h.c6
 have h2':tmps[1]?.getD undef=.pointer (some ⟨g,0,none⟩):=by simpa using h2
 simp [results,Tryz.results55,go_sem,h2',c0,c1,c2,c3,c4,c5,c6]
theorem toks_new1 (w:World)(b:Nat)(hb:w.heap.size≠b)(S0:List UInt8)(ty:Nat):NamesAt (fun x=>x≠b) (w.alloc (.cells #[.string (strB S0)] ty)) (some ⟨w.heap.size,0,none⟩) [S0]:=fun _ =>
 ⟨w.heap.size,0,rfl,hb,by simp,fun j x hj=>by
  match j,hj with
  | 0,hj=>simp at hj;subst hj;exact cell_of_row _ _ 0 _ _ (0,0) (heap_alloc_new w _)
  | j+1,hj=>simp at hj⟩
theorem toks_new2 (w:World)(b:Nat)(hb:w.heap.size≠b)(S0 S1:List UInt8)(ty:Nat):NamesAt (fun x=>x≠b) (w.alloc (.cells #[.string (strB S0),.string (strB S1)] ty)) (some ⟨w.heap.size,0,none⟩) [S0,S1]:=fun _ =>
 ⟨w.heap.size,0,rfl,hb,by simp,fun j x hj=>by
  match j,hj with
  | 0,hj=>simp at hj;subst hj;exact cell_of_row _ _ 0 _ _ (0,0) (heap_alloc_new w _)
  | 1,hj=>simp at hj;subst hj;exact cell_of_row _ _ 1 _ _ (0,0) (heap_alloc_new w _)
  | j+2,hj=>simp at hj⟩
theorem toks_new3 (w:World)(b:Nat)(hb:w.heap.size≠b)(S0 S1 S2:List UInt8)(ty:Nat):NamesAt (fun x=>x≠b) (w.alloc (.cells #[.string (strB S0),.string (strB S1),.string (strB S2)] ty)) (some ⟨w.heap.size,0,none⟩) [S0,S1,S2]:=fun _ =>
 ⟨w.heap.size,0,rfl,hb,by simp,fun j x hj=>by
  match j,hj with
  | 0,hj=>simp at hj;subst hj;exact cell_of_row _ _ 0 _ _ (0,0) (heap_alloc_new w _)
  | 1,hj=>simp at hj;subst hj;exact cell_of_row _ _ 1 _ _ (0,0) (heap_alloc_new w _)
  | 2,hj=>simp at hj;subst hj;exact cell_of_row _ _ 2 _ _ (0,0) (heap_alloc_new w _)
  | j+3,hj=>simp at hj⟩
set_option maxRecDepth 100000 in
set_option maxHeartbeats 2000000 in
theorem expr1_fun {F:Prop}(x b g go c:Nat)(ts:List Rt)(nx nx1 dp:Nat)(t:Rt)(ex:Ex)(w:World)(h:PS w b g go c ts nx dp)(hx:BoxP w x b)(ht:ts[nx]?=some t)(hn:t.s=[102,117,110])
  (HC:Hid (∀ q w',w.grownBy w' (some b)→PS w' b g go c ts nx dp→NamesAt (fun z=>z≠b) w' (some ⟨q,0,none⟩) [[45,62]]→Calls Tryz.prog 57 #[.pointer (some ⟨b,0,none⟩),.int .i64 4,.int .i64 1,.slice (some ⟨q,0,none⟩) 1 1] w' (OF F w' b g go c ts (ExprTo w' b g go c ts nx1 dp ex)))) :
  Calls Tryz.prog 55 #[.pointer (some ⟨x,0,none⟩)] w (OF F w b g go c ts (ExprTo w b g go c ts nx1 dp ex)):=by
 have hbl:=h.blt
 have hgl:=h.lt
 have hxl:=hx.lt
 have HP:=Lib.hid (fun w h=>peek_any b g go c ts nx dp t w h ht)
 have H0:=Lib.hid (h.below (WH0_below w))
 have HX0:=Lib.hid (hx.kept (grown_below (WH0_below w) none) (by simp))
 have hxb:=hx.ne h
 have x0:=hx.c
 obtain ⟨S,hS⟩:∃ S,S=strB t.s:=⟨_,rfl⟩
 have q0:=eq_list hS hn
 have fl1:=tfield1
 obtain ⟨tk,tss,tn,tp⟩:=t
 simp only at HP hS
 rw [← hS] at HP
 clear h hx ht hS hn
 go_enter Tryz.func55,Tryz.ntmps55
 go_wp2_with fail
 refine (HP.out _ H0.out).mono ?_
 rintro e w1 ⟨rfl,hb⟩
 have HP1:=Lib.hid (H0.out.below hb)
 have HX1:=Lib.hid (HX0.out.kept (grown_below hb none) (by simp))
 have HE1:=Lib.hid ((WH0_E w).kept (grown_below hb none) (by simp))
 have HG1:=Lib.hid (grown_trans (grown_below (WH0_below w) (some b)) (grown_below hb _))
 have x1:=HX1.out.c
 have hx1:=HX1.out.lt
 have hb1:=HP1.out.blt
 have hz1:w.heap.size < w1.heap.size:=HE1.out.lt
 clear hb x0
 go_wp2_with fail
 have hg2:w1.grownBy (w1.alloc (.cells #[.string ⟨#[45,62]⟩] 9)) none:=World.grownBy_alloc _ _ _
 have HE2:=Lib.hid (HE1.out.kept hg2 (by simp))
 have HG2:=Lib.hid (grown_trans HG1.out (Below.grownBy' hg2))
 refine (HC.out w1.heap.size _ HG2.out (HP1.out.kept hg2 (by simp) (by simp)) (toks_new1 w1 b (by omega) [45,62] 9)).mono ?_
 rintro e w3 (⟨k,n,s,u,A0,n0,m0,A1,n1,m1,A2,n2,m2,rfl,hr,hw⟩ | ⟨hF,nxF,hnF,rfl,dpF,hpF,hgF⟩)
 rotate_left
 ·exact ⟨rfl,.inr ⟨hF,nxF,hnF,rfl,dpF,hpF,grown_trans HG2.out hgF⟩⟩
 have H3:=Lib.hid hw.1
 have HE3:=Lib.hid (HE2.out.kept hw.2 (by simp;omega))
 have HG3:=Lib.hid (grown_trans HG2.out hw.2)
 have HR3:=Lib.hid (hr.weaken (Q:=fun x=>w.heap.size < x) (fun x hx=>by first | (simp at hx;omega) | omega))
 have hz3:w.heap.size < w3.heap.size:=HE3.out.lt
 have e0:=HE3.out.c0
 have r0:=HE3.out.fr 0
 have e1:=HE3.out.c1
 have r1:=HE3.out.fr 1
 have e2:=HE3.out.c2
 have r2:=HE3.out.fr 2
 have e3:=HE3.out.c3
 have r3:=HE3.out.fr 3
 have e4:=HE3.out.c4
 have r4:=HE3.out.fr 4
 have e5:=HE3.out.c5
 have r5:=HE3.out.fr 5
 have e6:=HE3.out.c6
 have r6:=HE3.out.fr 6
 clear hr hw HC
 go_wp2_with fail
 exact bodyPost_retF (res_x1 rfl (HE3.out.all _ _ _ _ _ _ _)) rfl ⟨k,n,s,u,A0,n0,m0,A1,n1,m1,A2,n2,m2,rfl,(HR3.out.keep (Same.of_grown (set7_grown _ _ _ _ _ _ _ _ _) (fun x hx=>by simp;omega))).weaken (fun x hx=>by omega),H3.out.kept (set7_grown _ _ _ _ _ _ _ _ _) (by simp;omega) (by simp;omega),grown_7 HG3.out (Nat.le_refl _) _ _ _ _ _ _ _⟩
set_option maxRecDepth 100000 in
set_option maxHeartbeats 2000000 in
theorem expr1_let {F:Prop}(x b g go c:Nat)(ts:List Rt)(nx nx1 dp:Nat)(t:Rt)(ex:Ex)(w:World)(h:PS w b g go c ts nx dp)(hx:BoxP w x b)(ht:ts[nx]?=some t)(hn:t.s=[108,101,116])
  (HC:Hid (∀ q w',w.grownBy w' (some b)→PS w' b g go c ts nx dp→NamesAt (fun z=>z≠b) w' (some ⟨q,0,none⟩) [[61],[105,110]]→Calls Tryz.prog 57 #[.pointer (some ⟨b,0,none⟩),.int .i64 6,.int .i64 1,.slice (some ⟨q,0,none⟩) 2 2] w' (OF F w' b g go c ts (ExprTo w' b g go c ts nx1 dp ex)))) :
  Calls Tryz.prog 55 #[.pointer (some ⟨x,0,none⟩)] w (OF F w b g go c ts (ExprTo w b g go c ts nx1 dp ex)):=by
 have hbl:=h.blt
 have hgl:=h.lt
 have hxl:=hx.lt
 have HP:=Lib.hid (fun w h=>peek_any b g go c ts nx dp t w h ht)
 have H0:=Lib.hid (h.below (WH0_below w))
 have HX0:=Lib.hid (hx.kept (grown_below (WH0_below w) none) (by simp))
 have hxb:=hx.ne h
 have x0:=hx.c
 obtain ⟨S,hS⟩:∃ S,S=strB t.s:=⟨_,rfl⟩
 have q0:=ne_list hS (show t.s≠[102,117,110] by rw [hn];decide)
 have q1:=eq_list hS hn
 have fl1:=tfield1
 obtain ⟨tk,tss,tn,tp⟩:=t
 simp only at HP hS
 rw [← hS] at HP
 clear h hx ht hS hn
 go_enter Tryz.func55,Tryz.ntmps55
 go_wp2_with fail
 refine (HP.out _ H0.out).mono ?_
 rintro e w1 ⟨rfl,hb⟩
 have HP1:=Lib.hid (H0.out.below hb)
 have HX1:=Lib.hid (HX0.out.kept (grown_below hb none) (by simp))
 have HE1:=Lib.hid ((WH0_E w).kept (grown_below hb none) (by simp))
 have HG1:=Lib.hid (grown_trans (grown_below (WH0_below w) (some b)) (grown_below hb _))
 have x1:=HX1.out.c
 have hx1:=HX1.out.lt
 have hb1:=HP1.out.blt
 have hz1:w.heap.size < w1.heap.size:=HE1.out.lt
 clear hb x0
 go_wp2_with fail
 have hg2:w1.grownBy (w1.alloc (.cells #[.string ⟨#[61]⟩,.string ⟨#[105,110]⟩] 9)) none:=World.grownBy_alloc _ _ _
 have HE2:=Lib.hid (HE1.out.kept hg2 (by simp))
 have HG2:=Lib.hid (grown_trans HG1.out (Below.grownBy' hg2))
 refine (HC.out w1.heap.size _ HG2.out (HP1.out.kept hg2 (by simp) (by simp)) (toks_new2 w1 b (by omega) [61] [105,110] 9)).mono ?_
 rintro e w3 (⟨k,n,s,u,A0,n0,m0,A1,n1,m1,A2,n2,m2,rfl,hr,hw⟩ | ⟨hF,nxF,hnF,rfl,dpF,hpF,hgF⟩)
 rotate_left
 ·exact ⟨rfl,.inr ⟨hF,nxF,hnF,rfl,dpF,hpF,grown_trans HG2.out hgF⟩⟩
 have H3:=Lib.hid hw.1
 have HE3:=Lib.hid (HE2.out.kept hw.2 (by simp;omega))
 have HG3:=Lib.hid (grown_trans HG2.out hw.2)
 have HR3:=Lib.hid (hr.weaken (Q:=fun x=>w.heap.size < x) (fun x hx=>by first | (simp at hx;omega) | omega))
 have hz3:w.heap.size < w3.heap.size:=HE3.out.lt
 have e0:=HE3.out.c0
 have r0:=HE3.out.fr 0
 have e1:=HE3.out.c1
 have r1:=HE3.out.fr 1
 have e2:=HE3.out.c2
 have r2:=HE3.out.fr 2
 have e3:=HE3.out.c3
 have r3:=HE3.out.fr 3
 have e4:=HE3.out.c4
 have r4:=HE3.out.fr 4
 have e5:=HE3.out.c5
 have r5:=HE3.out.fr 5
 have e6:=HE3.out.c6
 have r6:=HE3.out.fr 6
 clear hr hw HC
 go_wp2_with fail
 exact bodyPost_retF (res_x1 rfl (HE3.out.all _ _ _ _ _ _ _)) rfl ⟨k,n,s,u,A0,n0,m0,A1,n1,m1,A2,n2,m2,rfl,(HR3.out.keep (Same.of_grown (set7_grown _ _ _ _ _ _ _ _ _) (fun x hx=>by simp;omega))).weaken (fun x hx=>by omega),H3.out.kept (set7_grown _ _ _ _ _ _ _ _ _) (by simp;omega) (by simp;omega),grown_7 HG3.out (Nat.le_refl _) _ _ _ _ _ _ _⟩
set_option maxRecDepth 100000 in
set_option maxHeartbeats 2000000 in
theorem expr1_rec {F:Prop}(x b g go c:Nat)(ts:List Rt)(nx nx1 dp:Nat)(t:Rt)(ex:Ex)(w:World)(h:PS w b g go c ts nx dp)(hx:BoxP w x b)(ht:ts[nx]?=some t)(hn:t.s=[114,101,99])
  (HC:Hid (∀ q w',w.grownBy w' (some b)→PS w' b g go c ts nx dp→NamesAt (fun z=>z≠b) w' (some ⟨q,0,none⟩) [[61],[105,110]]→Calls Tryz.prog 57 #[.pointer (some ⟨b,0,none⟩),.int .i64 7,.int .i64 2,.slice (some ⟨q,0,none⟩) 2 2] w' (OF F w' b g go c ts (ExprTo w' b g go c ts nx1 dp ex)))) :
  Calls Tryz.prog 55 #[.pointer (some ⟨x,0,none⟩)] w (OF F w b g go c ts (ExprTo w b g go c ts nx1 dp ex)):=by
 have hbl:=h.blt
 have hgl:=h.lt
 have hxl:=hx.lt
 have HP:=Lib.hid (fun w h=>peek_any b g go c ts nx dp t w h ht)
 have H0:=Lib.hid (h.below (WH0_below w))
 have HX0:=Lib.hid (hx.kept (grown_below (WH0_below w) none) (by simp))
 have hxb:=hx.ne h
 have x0:=hx.c
 obtain ⟨S,hS⟩:∃ S,S=strB t.s:=⟨_,rfl⟩
 have q0:=ne_list hS (show t.s≠[102,117,110] by rw [hn];decide)
 have q1:=ne_list hS (show t.s≠[108,101,116] by rw [hn];decide)
 have q2:=eq_list hS hn
 have fl1:=tfield1
 obtain ⟨tk,tss,tn,tp⟩:=t
 simp only at HP hS
 rw [← hS] at HP
 clear h hx ht hS hn
 go_enter Tryz.func55,Tryz.ntmps55
 go_wp2_with fail
 refine (HP.out _ H0.out).mono ?_
 rintro e w1 ⟨rfl,hb⟩
 have HP1:=Lib.hid (H0.out.below hb)
 have HX1:=Lib.hid (HX0.out.kept (grown_below hb none) (by simp))
 have HE1:=Lib.hid ((WH0_E w).kept (grown_below hb none) (by simp))
 have HG1:=Lib.hid (grown_trans (grown_below (WH0_below w) (some b)) (grown_below hb _))
 have x1:=HX1.out.c
 have hx1:=HX1.out.lt
 have hb1:=HP1.out.blt
 have hz1:w.heap.size < w1.heap.size:=HE1.out.lt
 clear hb x0
 go_wp2_with fail
 have hg2:w1.grownBy (w1.alloc (.cells #[.string ⟨#[61]⟩,.string ⟨#[105,110]⟩] 9)) none:=World.grownBy_alloc _ _ _
 have HE2:=Lib.hid (HE1.out.kept hg2 (by simp))
 have HG2:=Lib.hid (grown_trans HG1.out (Below.grownBy' hg2))
 refine (HC.out w1.heap.size _ HG2.out (HP1.out.kept hg2 (by simp) (by simp)) (toks_new2 w1 b (by omega) [61] [105,110] 9)).mono ?_
 rintro e w3 (⟨k,n,s,u,A0,n0,m0,A1,n1,m1,A2,n2,m2,rfl,hr,hw⟩ | ⟨hF,nxF,hnF,rfl,dpF,hpF,hgF⟩)
 rotate_left
 ·exact ⟨rfl,.inr ⟨hF,nxF,hnF,rfl,dpF,hpF,grown_trans HG2.out hgF⟩⟩
 have H3:=Lib.hid hw.1
 have HE3:=Lib.hid (HE2.out.kept hw.2 (by simp;omega))
 have HG3:=Lib.hid (grown_trans HG2.out hw.2)
 have HR3:=Lib.hid (hr.weaken (Q:=fun x=>w.heap.size < x) (fun x hx=>by first | (simp at hx;omega) | omega))
 have hz3:w.heap.size < w3.heap.size:=HE3.out.lt
 have e0:=HE3.out.c0
 have r0:=HE3.out.fr 0
 have e1:=HE3.out.c1
 have r1:=HE3.out.fr 1
 have e2:=HE3.out.c2
 have r2:=HE3.out.fr 2
 have e3:=HE3.out.c3
 have r3:=HE3.out.fr 3
 have e4:=HE3.out.c4
 have r4:=HE3.out.fr 4
 have e5:=HE3.out.c5
 have r5:=HE3.out.fr 5
 have e6:=HE3.out.c6
 have r6:=HE3.out.fr 6
 clear hr hw HC
 go_wp2_with fail
 exact bodyPost_retF (res_x1 rfl (HE3.out.all _ _ _ _ _ _ _)) rfl ⟨k,n,s,u,A0,n0,m0,A1,n1,m1,A2,n2,m2,rfl,(HR3.out.keep (Same.of_grown (set7_grown _ _ _ _ _ _ _ _ _) (fun x hx=>by simp;omega))).weaken (fun x hx=>by omega),H3.out.kept (set7_grown _ _ _ _ _ _ _ _ _) (by simp;omega) (by simp;omega),grown_7 HG3.out (Nat.le_refl _) _ _ _ _ _ _ _⟩
set_option maxRecDepth 100000 in
set_option maxHeartbeats 2000000 in
theorem expr1_if {F:Prop}(x b g go c:Nat)(ts:List Rt)(nx nx1 dp:Nat)(t:Rt)(l:List Ex)(w:World)(h:PS w b g go c ts nx dp)(hx:BoxP w x b)(ht:ts[nx]?=some t)(hn:t.s=[105,102])
  (HC:Hid (∀ q w',w.grownBy w' (some b)→PS w' b g go c ts nx dp→NamesAt (fun z=>z≠b) w' (some ⟨q,0,none⟩) [[105,102],[116,104,101,110],[101,108,115,101]]→Calls Tryz.prog 58 #[.pointer (some ⟨b,0,none⟩),.slice (some ⟨q,0,none⟩) 3 3] w' (OF F w' b g go c ts (ListTo w' b g go c ts nx1 dp l)))) :
  Calls Tryz.prog 55 #[.pointer (some ⟨x,0,none⟩)] w (OF F w b g go c ts (ExprTo w b g go c ts nx1 dp (.mk 8 0 [] [] [] l [] []))):=by
 have hbl:=h.blt
 have hgl:=h.lt
 have hxl:=hx.lt
 have HP:=Lib.hid (fun w h=>peek_any b g go c ts nx dp t w h ht)
 have H0:=Lib.hid (h.below (WH0_below w))
 have HX0:=Lib.hid (hx.kept (grown_below (WH0_below w) none) (by simp))
 have hxb:=hx.ne h
 have x0:=hx.c
 obtain ⟨S,hS⟩:∃ S,S=strB t.s:=⟨_,rfl⟩
 have q0:=ne_list hS (show t.s≠[102,117,110] by rw [hn];decide)
 have q1:=ne_list hS (show t.s≠[108,101,116] by rw [hn];decide)
 have q2:=ne_list hS (show t.s≠[114,101,99] by rw [hn];decide)
 have q3:=eq_list hS hn
 have fl1:=tfield1
 obtain ⟨tk,tss,tn,tp⟩:=t
 simp only at HP hS
 rw [← hS] at HP
 clear h hx ht hS hn
 go_enter Tryz.func55,Tryz.ntmps55
 go_wp2_with fail
 refine (HP.out _ H0.out).mono ?_
 rintro e w1 ⟨rfl,hb⟩
 have HP1:=Lib.hid (H0.out.below hb)
 have HX1:=Lib.hid (HX0.out.kept (grown_below hb none) (by simp))
 have HE1:=Lib.hid ((WH0_E w).kept (grown_below hb none) (by simp))
 have HG1:=Lib.hid (grown_trans (grown_below (WH0_below w) (some b)) (grown_below hb _))
 have x1:=HX1.out.c
 have hx1:=HX1.out.lt
 have hb1:=HP1.out.blt
 have hz1:w.heap.size < w1.heap.size:=HE1.out.lt
 clear hb x0
 go_wp2_with fail
 have hg2:w1.grownBy (w1.alloc (.cells #[.string ⟨#[105,102]⟩,.string ⟨#[116,104,101,110]⟩,.string ⟨#[101,108,115,101]⟩] 9)) none:=World.grownBy_alloc _ _ _
 have HE2:=Lib.hid (HE1.out.kept hg2 (by simp))
 have HG2:=Lib.hid (grown_trans HG1.out (Below.grownBy' hg2))
 refine (HC.out w1.heap.size _ HG2.out (HP1.out.kept hg2 (by simp) (by simp)) (toks_new3 w1 b (by omega) [105,102] [116,104,101,110] [101,108,115,101] 9)).mono ?_
 rintro e w3 (⟨A,cap,rfl,hl,hcp,hw⟩ | ⟨hF,nxF,hnF,rfl,dpF,hpF,hgF⟩)
 rotate_left
 ·exact ⟨rfl,.inr ⟨hF,nxF,hnF,rfl,dpF,hpF,grown_trans HG2.out hgF⟩⟩
 have H3:=Lib.hid hw.1
 have HE3:=Lib.hid (HE2.out.kept hw.2 (by simp;omega))
 have HG3:=Lib.hid (grown_trans HG2.out hw.2)
 have HL3:=Lib.hid hl
 have HCp:=Lib.hid hcp
 have hz3:w.heap.size < w3.heap.size:=HE3.out.lt
 have e0:=HE3.out.c0
 have r0:=HE3.out.fr 0
 have e1:=HE3.out.c1
 have r1:=HE3.out.fr 1
 have e2:=HE3.out.c2
 have r2:=HE3.out.fr 2
 have e3:=HE3.out.c3
 have r3:=HE3.out.fr 3
 have e4:=HE3.out.c4
 have r4:=HE3.out.fr 4
 have e5:=HE3.out.c5
 have r5:=HE3.out.fr 5
 have e6:=HE3.out.c6
 have r6:=HE3.out.fr 6
 clear hl hcp hw HC
 go_wp2_with fail
 have hS7:=Same.of_grown (P:=fun x=>w1.heap.size≤x) (set7_grown w3 w.heap.size (.int .i64 8) (.int .i64 0) (.string ⟨#[]⟩) (.string ⟨#[]⟩) (.slice none 0 0) (.slice A l.length cap) (.slice none 0 0)) (fun x hx=>by simp;omega)
 refine bodyPost_retF (res_x1 rfl (HE3.out.all _ _ _ _ _ _ _)) rfl ⟨8,0,⟨#[]⟩,⟨#[]⟩,none,0,0,A,l.length,cap,none,0,0,rfl,⟨none,0,A,cap,none,0,rfl,⟨okN_small (by omega),okN_small (by omega),okS_nil,Nat.zero_le _,by simp,⟨Nat.le_refl _,Nat.zero_le _⟩,HCp.out,⟨Nat.le_refl _,Nat.zero_le _⟩⟩,fun h=>absurd rfl h,fun h0=>?_,fun h=>absurd rfl h,rfl⟩,H3.out.kept (set7_grown _ _ _ _ _ _ _ _ _) (by simp;omega) (by simp;omega),grown_7 HG3.out (Nat.le_refl _) _ _ _ _ _ _ _⟩
 obtain ⟨y,off,e,h1,h2,h3⟩:=HL3.out h0
 have h1':w1.heap.size≤y:=by simp at h1;omega
 exact ⟨y,off,e,by omega,Nat.lt_of_lt_of_le h2 hS7.1,((h3.weaken (Q:=fun x=>w1.heap.size≤x) (fun x hx=>by simp at hx;omega)).keep hS7 h1' h2).weaken (fun y hy=>by omega)⟩
set_option maxRecDepth 100000 in
set_option maxHeartbeats 2000000 in
theorem expr1_using {F:Prop}(x b g go c:Nat)(ts:List Rt)(nx nx1 dp:Nat)(t:Rt)(ex:Ex)(w:World)(h:PS w b g go c ts nx dp)(hx:BoxP w x b)(ht:ts[nx]?=some t)(hn:t.s=[117,115,105,110,103])
  (HC:Hid (∀ w',w.grownBy w' (some b)→PS w' b g go c ts nx dp→Calls Tryz.prog 59 #[.pointer (some ⟨b,0,none⟩)] w' (OF F w' b g go c ts (ExprTo w' b g go c ts nx1 dp ex)))) :
  Calls Tryz.prog 55 #[.pointer (some ⟨x,0,none⟩)] w (OF F w b g go c ts (ExprTo w b g go c ts nx1 dp ex)):=by
 have hbl:=h.blt
 have hgl:=h.lt
 have hxl:=hx.lt
 have HP:=Lib.hid (fun w h=>peek_any b g go c ts nx dp t w h ht)
 have H0:=Lib.hid (h.below (WH0_below w))
 have HX0:=Lib.hid (hx.kept (grown_below (WH0_below w) none) (by simp))
 have hxb:=hx.ne h
 have x0:=hx.c
 obtain ⟨S,hS⟩:∃ S,S=strB t.s:=⟨_,rfl⟩
 have q0:=ne_list hS (show t.s≠[102,117,110] by rw [hn];decide)
 have q1:=ne_list hS (show t.s≠[108,101,116] by rw [hn];decide)
 have q2:=ne_list hS (show t.s≠[114,101,99] by rw [hn];decide)
 have q3:=ne_list hS (show t.s≠[105,102] by rw [hn];decide)
 have q4:=eq_list hS hn
 have fl1:=tfield1
 obtain ⟨tk,tss,tn,tp⟩:=t
 simp only at HP hS
 rw [← hS] at HP
 clear h hx ht hS hn
 go_enter Tryz.func55,Tryz.ntmps55
 go_wp2_with fail
 refine (HP.out _ H0.out).mono ?_
 rintro e w1 ⟨rfl,hb⟩
 have HP1:=Lib.hid (H0.out.below hb)
 have HX1:=Lib.hid (HX0.out.kept (grown_below hb none) (by simp))
 have HE1:=Lib.hid ((WH0_E w).kept (grown_below hb none) (by simp))
 have HG1:=Lib.hid (grown_trans (grown_below (WH0_below w) (some b)) (grown_below hb _))
 have x1:=HX1.out.c
 have hx1:=HX1.out.lt
 have hb1:=HP1.out.blt
 have hz1:w.heap.size < w1.heap.size:=HE1.out.lt
 clear hb x0
 go_wp2_with fail
 refine (HC.out _ HG1.out HP1.out).mono ?_
 rintro e w3 (⟨k,n,s,u,A0,n0,m0,A1,n1,m1,A2,n2,m2,rfl,hr,hw⟩ | ⟨hF,nxF,hnF,rfl,dpF,hpF,hgF⟩)
 rotate_left
 ·exact ⟨rfl,.inr ⟨hF,nxF,hnF,rfl,dpF,hpF,grown_trans HG1.out hgF⟩⟩
 have H3:=Lib.hid hw.1
 have HE3:=Lib.hid (HE1.out.kept hw.2 (by simp;omega))
 have HG3:=Lib.hid (grown_trans HG1.out hw.2)
 have HR3:=Lib.hid (hr.weaken (Q:=fun x=>w.heap.size < x) (fun x hx=>by first | (simp at hx;omega) | omega))
 have hz3:w.heap.size < w3.heap.size:=HE3.out.lt
 have e0:=HE3.out.c0
 have r0:=HE3.out.fr 0
 have e1:=HE3.out.c1
 have r1:=HE3.out.fr 1
 have e2:=HE3.out.c2
 have r2:=HE3.out.fr 2
 have e3:=HE3.out.c3
 have r3:=HE3.out.fr 3
 have e4:=HE3.out.c4
 have r4:=HE3.out.fr 4
 have e5:=HE3.out.c5
 have r5:=HE3.out.fr 5
 have e6:=HE3.out.c6
 have r6:=HE3.out.fr 6
 clear hr hw HC
 go_wp2_with fail
 exact bodyPost_retF (res_x1 rfl (HE3.out.all _ _ _ _ _ _ _)) rfl ⟨k,n,s,u,A0,n0,m0,A1,n1,m1,A2,n2,m2,rfl,(HR3.out.keep (Same.of_grown (set7_grown _ _ _ _ _ _ _ _ _) (fun x hx=>by simp;omega))).weaken (fun x hx=>by omega),H3.out.kept (set7_grown _ _ _ _ _ _ _ _ _) (by simp;omega) (by simp;omega),grown_7 HG3.out (Nat.le_refl _) _ _ _ _ _ _ _⟩
theorem res_open2 {tmps:Array Value}{w:World}{g:Nat}{v0 v1 v2 v3 v4 v5 v6:Value}(h2:tmps.getD 8 undef=.pointer (some ⟨g,0,none⟩))(h:EB w g v0 v1 v2 v3 v4 v5 v6) :
  (results Tryz.f57 tmps).run Tryz.prog w=.ok (.agg #[v0,v1,v2,v3,v4,v5,v6]) w:=by
 have c0:=h.c0
 have c1:=h.c1
 have c2:=h.c2
 have c3:=h.c3
 have c4:=h.c4
 have c5:=h.c5
 have c6:=h.c6
 have h2':tmps[8]?.getD undef=.pointer (some ⟨g,0,none⟩):=by simpa using h2
 simp [results,Tryz.results57,go_sem,h2',c0,c1,c2,c3,c4,c5,c6]
theorem EB.set4 {w:World}{g:Nat}{v0 v1 v2 v3 v4 v5 v6:Value}(h:EB w g v0 v1 v2 v3 v4 v5 v6)(u:Value):EB (w.setCell ⟨g,4,none⟩ u) g v0 v1 v2 v3 u v5 v6:=by
 unfold EB at h ⊢;simp [World.setCell,Array.getElem?_modify,h]
set_option maxRecDepth 100000 in
set_option maxHeartbeats 4000000 in
theorem pOpen_any {F:Prop}(b g go c:Nat)(ts:List Rt)(nx nx1 dp:Nat)(k:Int)(ns:List (List UInt8))(l:List Ex)(At:Option Addr)(mt ct:Nat)(w:World)(h:PS w b g go c ts nx dp)(hk:okN k)(hnx:nx+1≤100000)(hlen:ts.length≤100000)(hn0:ns.length≤1000)(hok:∀ x∈ns,okS x)
  (hnm:∀ (kk:Nat) (x:List UInt8),ns[kk]?=some x→∃ t,ts[nx+1+kk]?=some t∧t.k=0∧t.s=x)
  (HB:Hid (∀ w',w.grownBy w' (some b)→PS w' b g go c ts (nx+1+ns.length) dp→Calls Tryz.prog 58 #[.pointer (some ⟨b,0,none⟩),.slice At mt ct] w' (OF F w' b g go c ts (ListTo w' b g go c ts nx1 dp l)))) :
  Calls Tryz.prog 57 #[.pointer (some ⟨b,0,none⟩),.int .i64 k,.int .i64 (ns.length:Int),.slice At mt ct] w (OF F w b g go c ts (ExprTo w b g go c ts nx1 dp (.mk k 0 [] [] ns l [] []))):=by
 obtain ⟨i0,hi,hz0,hz1,hz2⟩:=info_parts infoN
 have H:=Lib.hid h
 have hbl:=h.blt
 have hgl:=h.lt
 have c1:=h.c1
 have f1:=h.fr 1
 have HF:=Lib.hid hnm
 have HK:=Lib.hid hk
 have HOk:=Lib.hid hok
 obtain ⟨n,hn⟩:∃ n,n=ns.length:=⟨_,rfl⟩
 have HN:=Lib.hid hn
 rw [← hn] at HB ⊢
 have hn2:n≤1000:=by omega
 have i1:(nx:Int)+1≤100000:=by omega
 have p1:¬ w.heap.size=b:=by omega
 have p2:¬ b=w.heap.size:=by omega
 clear h hnm hk hok hn hn0
 go_enter Tryz.func57,Tryz.ntmps57
 go_wp2_with fail
 obtain ⟨W,hW⟩:∃ W,((w.setCell ⟨b,1,none⟩ (.int .i64 ((nx:Int)+1))).alloc (.cells #[.int .i64 0,.int .i64 0,.string ⟨#[]⟩,.string ⟨#[]⟩,.slice none 0 0,.slice none 0 0,.slice none 0 0] 27)).alloc (.cells #[.int .i64 k,.int .i64 0,.string ⟨#[]⟩,.string ⟨#[]⟩,.slice none 0 0,.slice none 0 0,.slice none 0 0] 27)=W:=⟨_,rfl⟩
 have HPW:Hid (PS W b g go c ts (nx+1) dp):=by
  rw [← hW]
  have:=H.out.set1 (nx+1)
  rw [Int.natCast_add] at this
  exact (this.below ((Below.refl _ _).alloc (Nat.le_refl _) _)).below ((Below.refl _ _).alloc (Nat.le_refl _) _)
 have HGW:Hid (w.grownBy W (some b)):=by
  rw [← hW];exact grown_trans (grown_trans (grown_set _ ⟨b,1,none⟩ _) (World.grownBy_alloc _ _ _)) (World.grownBy_alloc _ _ _)
 have HUW:Hid (EB W (w.heap.size+1) (.int .i64 k) (.int .i64 0) (.string ⟨#[]⟩) (.string ⟨#[]⟩) (.slice none 0 0) (.slice none 0 0) (.slice none 0 0)):=by
  rw [← hW]
  have:=EB.new ((w.setCell ⟨b,1,none⟩ (.int .i64 ((nx:Int)+1))).alloc (.cells #[.int .i64 0,.int .i64 0,.string ⟨#[]⟩,.string ⟨#[]⟩,.slice none 0 0,.slice none 0 0,.slice none 0 0] 27)) (.int .i64 k) (.int .i64 0) (.string ⟨#[]⟩) (.string ⟨#[]⟩) (.slice none 0 0) (.slice none 0 0) (.slice none 0 0)
  rw [World.size_alloc,size_set] at this
  exact this
 have HRW:Hid (EB W w.heap.size (.int .i64 0) (.int .i64 0) (.string ⟨#[]⟩) (.string ⟨#[]⟩) (.slice none 0 0) (.slice none 0 0) (.slice none 0 0)):=by
  rw [← hW]
  have:=EB.new (w.setCell ⟨b,1,none⟩ (.int .i64 ((nx:Int)+1))) (.int .i64 0) (.int .i64 0) (.string ⟨#[]⟩) (.string ⟨#[]⟩) (.slice none 0 0) (.slice none 0 0) (.slice none 0 0)
  rw [size_set] at this
  exact this.kept (World.grownBy_alloc _ _ none) (by simp)
 have hzW:W.heap.size=w.heap.size+2:=by rw [← hW];simp [World.setCell]
 rw [hW]
 clear hW c1 f1 H p1 p2
 go_loopw [23] (fun i wr=>∃ (kk:Nat) (A':Option Addr) (c':Nat),kk≤n∧i=.int .i64 (kk:Int)∧Hid (wr.ownsRow (w.heap.size+2) 9 1 (.slice A' kk c') kk ((ns.take kk).map fun x=>Value.string (strB x)))∧Hid (EB wr (w.heap.size+1) (.int .i64 k) (.int .i64 0) (.string ⟨#[]⟩) (.string ⟨#[]⟩) (.slice A' kk c') (.slice none 0 0) (.slice none 0 0))∧Hid (EB wr w.heap.size (.int .i64 0) (.int .i64 0) (.string ⟨#[]⟩) (.string ⟨#[]⟩) (.slice none 0 0) (.slice none 0 0) (.slice none 0 0))∧Hid (PS wr b g go c ts (nx+1+kk) dp)∧Hid (w.grownBy wr (some b))) (fun i _=>n - (intOf i).toNat)
 case atStart=>exact ⟨0,none,0,Nat.zero_le _,rfl,Lib.hid (World.ownsRow_nil _ _ _ _),HUW,HRW,HPW,HGW⟩
 case round =>
  obtain ⟨kk,A',c',hkk,rfl,hO,hU,hR,hP,hG⟩:=hrel
  have j0:(0:Int)≤(kk:Int):=by omega
  have hzU:w.heap.size+1 < wr.heap.size:=hU.out.lt
  by_cases hkn:kk < n
  ·have j1:(kk:Int) < (n:Int):=by omega
   obtain ⟨x,hx⟩:∃ x,x=ns[kk]'(by rw [← HN.out];exact hkn):=⟨_,rfl⟩
   have HX:Hid (ns[kk]?=some x):=Lib.hid (by rw [hx];exact List.getElem?_eq_getElem _)
   obtain ⟨t,ht,htk,hts⟩:=HF.out kk x HX.out
   have HLo:=Lib.hid (fun w h=>lower_ok b g go c ts (nx+1+kk) dp t w h ht htk hlen)
   rw [hts] at HLo
   obtain ⟨X,hXe⟩:∃ X,X=strB x:=⟨_,rfl⟩
   rw [← hXe] at HLo
   have HTk:Hid ((ns.take (kk+1)).map (fun x=>Value.string (strB x))=(ns.take kk).map (fun x=>Value.string (strB x))++[.string X]):=Lib.hid (by
    rw [List.take_add_one,HX.out,hXe];simp)
   clear hts ht hx hXe htk
   go_wp2_with fail
   refine (HLo.out _ hP.out).mono ?_
   rintro e w2 ⟨rfl,hw⟩
   have HP2:=Lib.hid hw.1
   have HO2:=Lib.hid (hO.out.kept hw.2 (own_apart2 hO.out (by omega)))
   have HU2:=Lib.hid (hU.out.kept hw.2 (by simp;omega))
   have HR2:=Lib.hid (hR.out.kept hw.2 (by simp;omega))
   have HG2:=Lib.hid (grown_trans hG.out hw.2)
   have hzw2:w.heap.size+1 < w2.heap.size:=HU2.out.lt
   have d4:=HU2.out.c4
   have s4:=HU2.out.fr 4
   clear hw
   go_wp2_with (at_builtin;refine wpList_append_own _ rfl _ _ 23 rfl (w.heap.size+2) 9 i0 (.string ⟨#[]⟩) 1 16 Tryz.underlying23 hi hz0 hz1 hz2 rfl (by decide) _ _ _ rfl (HO2.out.alloc _) ⟨w2.heap.size,0,none⟩ 1 1 [.string X] rfl rfl (cell_one_new _ _ _) (by simp [Value.oneCell']) (by unfold maxLen;omega) (by omega) (by simp;omega) ?_;intro v' w4 hown' hgrow _;obtain ⟨A3,c3,rfl⟩:=own_slice hown';have HO4:=Lib.hid hown';have HP4:=Lib.hid ((HP2.out.kept (World.grownBy_alloc w2 _ none) (by simp) (by simp)).kept hgrow (own_ne2 HO2.out (by omega)) (own_ne2 HO2.out (by omega)));have HU4:=Lib.hid ((HU2.out.kept (World.grownBy_alloc w2 _ none) (by simp)).kept hgrow (own_ne2 HO2.out (by omega)));have HR4:=Lib.hid ((HR2.out.kept (World.grownBy_alloc w2 _ none) (by simp)).kept hgrow (own_ne2 HO2.out (by omega)));have HG4:=Lib.hid (grown_own2 (grown_trans HG2.out (World.grownBy_alloc w2 _ _)) hgrow (fun k hk=>by have:=own_from2 HO2.out hk;omega));have s4':=HU4.out.fr 4;have d4':=HU4.out.c4;clear hown' hgrow)
   go_roundw
   case rel =>
    have hgs:=grown_set w4 ⟨w.heap.size+1,4,none⟩ (.slice A3 (kk+1) c3)
    exact ⟨kk+1,A3,c3,by omega,by go_num,Lib.hid (by rw [HTk.out];exact HO4.out.kept hgs (own_apart2 HO4.out (by simp))),Lib.hid (HU4.out.set4 _),Lib.hid (HR4.out.kept hgs (by simp)),Lib.hid (HP4.out.other (by omega) (by omega) _),Lib.hid (grown_new HG4.out (by omega) _)⟩
   case measure=>simp [intOf];omega
  ·obtain rfl:kk=n:=by omega
   go_wp2_with fail
   refine (HB.out _ hG.out hP.out).mono ?_
   rintro e w2 (⟨A,cap,rfl,hl,hcp,hw⟩ | ⟨hF,nxF,hnF,rfl,dpF,hpF,hgF⟩)
   rotate_left
   ·exact ⟨rfl,.inr ⟨hF,nxF,hnF,rfl,dpF,hpF,grown_trans hG.out hgF⟩⟩
   have HP2:=Lib.hid hw.1
   have HO2:=Lib.hid (hO.out.kept hw.2 (own_apart2 hO.out (by omega)))
   have HU2:=Lib.hid (hU.out.kept hw.2 (by simp;omega))
   have HR2:=Lib.hid (hR.out.kept hw.2 (by simp;omega))
   have HG2:=Lib.hid (grown_trans hG.out hw.2)
   have HL2:=Lib.hid hl
   have HCp:=Lib.hid hcp
   have hzw2:w.heap.size+1 < w2.heap.size:=HU2.out.lt
   have hzw3:w.heap.size < w2.heap.size:=by omega
   have hzr:=hw.2.size
   have e0:=HR2.out.c0
   have r0:=HR2.out.fr 0
   have d0:=HU2.out.c0
   have e1:=HR2.out.c1
   have r1:=HR2.out.fr 1
   have d1:=HU2.out.c1
   have e2:=HR2.out.c2
   have r2:=HR2.out.fr 2
   have d2:=HU2.out.c2
   have e3:=HR2.out.c3
   have r3:=HR2.out.fr 3
   have d3:=HU2.out.c3
   have e4:=HR2.out.c4
   have r4:=HR2.out.fr 4
   have d4:=HU2.out.c4
   have e5:=HR2.out.c5
   have r5:=HR2.out.fr 5
   have d5:=HU2.out.c5
   have e6:=HR2.out.c6
   have r6:=HR2.out.fr 6
   have d6:=HU2.out.c6
   have s5:=HU2.out.fr 5
   clear hw hl hcp HB
   go_wp2_with fail
   have hgs:=grown_set w2 ⟨w.heap.size+1,5,none⟩ (.slice A l.length cap)
   have hS:Same (fun x=>w.heap.size+2≤x) w2 (set7 (w2.setCell ⟨w.heap.size+1,5,none⟩ (.slice A l.length cap)) w.heap.size (.int .i64 k) (.int .i64 0) (.string ⟨#[]⟩) (.string ⟨#[]⟩) (.slice A' kk c') (.slice A l.length cap) (.slice none 0 0)) :=
    (Same.of_grown hgs (fun x hx=>by simp;omega)).trans (Same.of_grown (set7_grown _ _ _ _ _ _ _ _ _) (fun x hx=>by simp;omega))
   have ho:=HO2.out
   rw [List.take_of_length_le (by rw [← HN.out];exact Nat.le_refl _)] at ho
   obtain ⟨l1,l2,l3⟩:=own_names2 HN.out ho
   refine bodyPost_retF (res_open2 rfl ((HR2.out.kept hgs (by simp)).all _ _ _ _ _ _ _)) rfl ⟨k,0,⟨#[]⟩,⟨#[]⟩,A',kk,c',A,l.length,cap,none,0,0,rfl,⟨A',c',A,cap,none,0,by rw [HN.out];rfl,⟨HK.out,okN_small (by omega),okS_nil,Nat.zero_le _,HOk.out,by rw [← HN.out];exact ⟨l2,l3⟩,HCp.out,⟨Nat.le_refl _,Nat.zero_le _⟩⟩,(l1.keep hS).weaken (fun x hx=>by omega),fun h0=>?_,fun h=>absurd rfl h,rfl⟩,(HP2.out.kept hgs (by simp;omega) (by simp;omega)).kept (set7_grown _ _ _ _ _ _ _ _ _) (by simp;omega) (by simp;omega),grown_7 (grown_new HG2.out (by omega) _) (Nat.le_refl _) _ _ _ _ _ _ _⟩
   obtain ⟨y,off,e,h1,h2,h3⟩:=HL2.out h0
   have h1':w.heap.size+2≤y:=by omega
   exact ⟨y,off,e,by omega,Nat.lt_of_lt_of_le h2 hS.1,((h3.weaken (Q:=fun x=>w.heap.size+2≤x) (fun x hx=>by omega)).keep hS h1' h2).weaken (fun y hy=>by omega)⟩
def StrsTo (w:World)(b g go c:Nat)(ts:List Rt)(nx dp:Nat)(l:List (List UInt8))(e:Ending)(w':World):Prop :=
 ∃ A cap,e=.returned (.slice A l.length cap)∧w'.ownsRow w.heap.size 9 1 (.slice A l.length cap) l.length (l.map fun x=>Value.string (strB x))∧Went w w' b g go c ts nx dp
set_option maxRecDepth 100000 in
set_option maxHeartbeats 4000000 in
theorem sepS_any (b g go c z:Nat)(ts:List Rt)(nx dp:Nat)(L:List (List UInt8))(hd:Nat→Nat)(w:World)(h:PS w b g go c ts nx dp)(hz:NamesAt (fun x=>x≠b) w (some ⟨z,0,none⟩) [[93]])(h0:hd 0=nx)(hL:L.length≤1000)(hlen:ts.length≤100000)
  (hread:∀ (kk:Nat) (x:List UInt8),L[kk]?=some x→∀ w',PS w' b g go c ts (if kk=0 then nx else hd kk+1) dp→Calls Tryz.prog 89 #[.pointer (some ⟨b,0,none⟩)] w' fun e w2=>e=.returned (.string (strB x))∧Went w' w2 b g go c ts (hd (kk+1)) dp)
  (hcomma:∀ kk,0 < kk→kk < L.length→∃ t,ts[hd kk]?=some t∧t.s=[44])
  (hfirst:0 < L.length→∃ t,ts[nx]?=some t∧t.s≠[93])
  (hend:∃ t,ts[hd L.length]?=some t∧t.s=[93]) :
  Calls Tryz.prog 88 #[.pointer (some ⟨b,0,none⟩),.string ⟨#[44]⟩,.func (.func 89) #[.pointer (some ⟨b,0,none⟩)] #[],.slice (some ⟨z,0,none⟩) 1 1] w (StrsTo w b g go c ts (hd L.length) dp L):=by
 obtain ⟨i0,hi,hz0,hz1,hz2⟩:=info_parts infoN
 have H:=Lib.hid h
 have hbl:=h.blt
 have hgl:=h.lt
 have HE:=Lib.hid hz
 have HL:=Lib.hid hread
 have HC:=Lib.hid hcomma
 have HF:=Lib.hid hfirst
 have HD:=Lib.hid hend
 obtain ⟨n,hn⟩:∃ n,n=L.length:=⟨_,rfl⟩
 have HN:=Lib.hid hn
 have hn2:n≤1000:=by omega
 have H0:=Lib.hid h0
 rw [← hn] at HC HF HD
 clear h hz hread hcomma hfirst hend hn hL h0
 go_enter Tryz.func88,Tryz.ntmps88
 go_wp2_with fail
 go_step3
 go_wp2_with fail
 go_step3
 go_wp2_with fail
 go_loopw [8,9] (fun v f wr=>∃ (kk:Nat) (A':Option Addr) (c':Nat),kk≤n∧((kk=0∧f=.bool true)∨(0 < kk∧f=.bool false))∧v=.slice A' kk c'∧Hid (wr.ownsRow w.heap.size 9 1 (.slice A' kk c') kk ((L.take kk).map fun x=>Value.string (strB x)))∧Hid (PS wr b g go c ts (hd kk) dp)∧Hid (w.grownBy wr (some b))) (fun v _ _=>n - slLen2 v)
 case atStart=>exact ⟨0,none,0,Nat.zero_le _,.inl ⟨rfl,rfl⟩,rfl,Lib.hid (World.ownsRow_nil _ _ _ _),by rw [H0.out];exact H,Lib.hid ⟨rfl,rfl,rfl,Nat.le_refl _,fun _ _ _=>rfl⟩⟩
 case round =>
  obtain ⟨kk,A',c',hkk,hf,rfl,hO,hP,hG⟩:=hrel
  have HEr:=Lib.hid (HE.out.keep (Same.of_grown hG.out (fun x hx=>by simpa using hx)))
  rcases hf with ⟨h0,rfl⟩ | ⟨h0,rfl⟩
  ·subst h0
   by_cases hn0:n=0
   ·obtain ⟨t,ht,hts⟩:=HD.out
    rw [hn0] at ht
    have HPk:=Lib.hid (peek_any b g go c ts (hd 0) dp t wr hP.out ht)
    obtain ⟨S,hS⟩:∃ S,S=strB t.s:=⟨_,rfl⟩
    have HCt:Hid (∀ w',Below wr.heap.size wr w'→Calls Tryz.prog 115 #[.slice (some ⟨z,0,none⟩) 1 1,.string S] w' fun e w''=>e=.returned (.bool true)∧w'=w''):=Lib.hid (fun w' hb=>by
     have:=contains_any (fun x=>x≠b) (some ⟨z,0,none⟩) 1 [[93]] t.s w' (HEr.out.keep (Same.of_below hb)) (by unfold maxLen;simp)
     rw [show ([[93]]:List (List UInt8)).contains t.s=true by rw [hts];rfl,← hS] at this
     exact this)
    rw [← hS] at HPk
    have fl1:=tfield1
    clear hS hts ht
    go_wp2_with fail
    refine HPk.out.mono ?_
    rintro e w1 ⟨rfl,hb⟩
    have HB:=Lib.hid hb
    have HP1:=Lib.hid (hP.out.below hb)
    have HO1:=Lib.hid (hO.out.kept (grown_below hb none) (by cases (Value.slice A' 0 c').ownBlock <;> simp))
    have HG1:=Lib.hid (grown_trans hG.out (grown_below hb _))
    clear hb
    go_wp2_with fail
    refine (HCt.out _ HB.out).mono ?_
    rintro e w3 ⟨rfl,rfl⟩
    go_wp2_with fail
    subst hn0
    rw [Exit.noGoto_ret]
    go_ret
    have ho:=HO1.out
    rw [List.take_of_length_le (by rw [← HN.out];exact Nat.le_refl _)] at ho
    exact ⟨A',c',by rw [← HN.out];rfl,by rw [← HN.out];exact ho,by rw [← HN.out];exact ⟨HP1.out,HG1.out⟩⟩
   ·have hn1:0 < n:=Nat.pos_of_ne_zero hn0
    obtain ⟨t,ht,hts⟩:=HF.out hn1
    rw [← H0.out] at ht
    obtain ⟨x,hx⟩:∃ x,x=L[0]'(by rw [← HN.out];exact hn1):=⟨_,rfl⟩
    have HX:Hid (L[0]?=some x):=Lib.hid (by rw [hx];exact List.getElem?_eq_getElem _)
    clear hx
    have HPk:=Lib.hid (peek_any b g go c ts (hd 0) dp t wr hP.out ht)
    obtain ⟨S,hS⟩:∃ S,S=strB t.s:=⟨_,rfl⟩
    have HCt:Hid (∀ w',Below wr.heap.size wr w'→Calls Tryz.prog 115 #[.slice (some ⟨z,0,none⟩) 1 1,.string S] w' fun e w''=>e=.returned (.bool false)∧w'=w''):=Lib.hid (fun w' hb=>by
     have:=contains_any (fun x=>x≠b) (some ⟨z,0,none⟩) 1 [[93]] t.s w' (HEr.out.keep (Same.of_below hb)) (by unfold maxLen;simp)
     rw [show ([[93]]:List (List UInt8)).contains t.s=false by simp [hts],← hS] at this
     exact this)
    rw [← hS] at HPk
    have fl1:=tfield1
    clear hS hts ht
    go_wp2_with fail
    refine HPk.out.mono ?_
    rintro e w1 ⟨rfl,hb⟩
    have HB:=Lib.hid hb
    have HP1:=Lib.hid (hP.out.below hb)
    have HO1:=Lib.hid (hO.out.kept (grown_below hb none) (by cases (Value.slice A' 0 c').ownBlock <;> simp))
    have HG1:=Lib.hid (grown_trans hG.out (grown_below hb _))
    clear hb
    go_wp2_with fail
    refine (HCt.out _ HB.out).mono ?_
    rintro e w3 ⟨rfl,rfl⟩
    go_wp2_with fail
    have HLb:=Lib.hid (HL.out _ x HX.out)
    rw [if_pos rfl,← H0.out] at HLb
    obtain ⟨X,hXe⟩:∃ X,X=strB x:=⟨_,rfl⟩
    rw [← hXe] at HLb
    have HTk:Hid ((L.take (0+1)).map (fun x=>Value.string (strB x))=(L.take 0).map (fun x=>Value.string (strB x))++[.string X]):=Lib.hid (by
     rw [List.take_add_one,HX.out,hXe];simp)
    clear hXe
    refine (HLb.out _ HP1.out).mono ?_
    rintro e w2 ⟨rfl,hw⟩
    have HP2:=Lib.hid hw.1
    have HO2:=Lib.hid (HO1.out.kept hw.2 (own_apart2 HO1.out hbl))
    have HG2:=Lib.hid (grown_trans HG1.out hw.2)
    have hzw2:=HG2.out.size
    clear hw HLb
    go_wp2_with (at_builtin;refine wpList_append_own _ rfl _ _ 23 rfl w.heap.size 9 i0 (.string ⟨#[]⟩) 1 16 Tryz.underlying23 hi hz0 hz1 hz2 rfl (by decide) _ _ _ rfl (HO2.out.alloc _) ⟨w2.heap.size,0,none⟩ 1 1 [.string X] rfl rfl (cell_one_new _ _ _) (by simp [Value.oneCell']) (by unfold maxLen;omega) (by omega) (by simp;omega) ?_;intro v' w4 hown' hgrow _;obtain ⟨A3,c3,rfl⟩:=own_slice hown';have HO4:=Lib.hid hown';have HP4:=Lib.hid ((HP2.out.kept (World.grownBy_alloc w2 _ none) (by simp) (by simp)).kept hgrow (own_ne2 HO2.out hbl) (own_ne2 HO2.out hgl));have HG4:=Lib.hid (grown_own2 (grown_trans HG2.out (World.grownBy_alloc w2 _ _)) hgrow (fun k hk=>own_from2 HO2.out hk));clear hown' hgrow)
    go_roundw
    case rel=>exact ⟨0+1,A3,c3,by omega,.inr ⟨by omega,rfl⟩,rfl,Lib.hid (by rw [HTk.out];exact HO4.out),HP4,HG4⟩
    case measure=>simp [slLen2];omega
  ·have hks:kk≠0:=by omega
   by_cases hkn:kk < n
   ·obtain ⟨t,ht,hts⟩:=HC.out kk h0 hkn
    obtain ⟨x,hx⟩:∃ x,x=L[kk]'(by rw [← HN.out];exact hkn):=⟨_,rfl⟩
    have HX:Hid (L[kk]?=some x):=Lib.hid (by rw [hx];exact List.getElem?_eq_getElem _)
    have HSk:=Lib.hid (skip_yes b g go c ts (hd kk) dp t ⟨#[44]⟩ wr hP.out ht hts hlen)
    clear hts ht hx
    go_wp2_with fail
    refine HSk.out.mono ?_
    rintro e w1 ⟨rfl,hw⟩
    have HP1:=Lib.hid hw.1
    have HO1:=Lib.hid (hO.out.kept hw.2 (own_apart2 hO.out hbl))
    have HG1:=Lib.hid (grown_trans hG.out hw.2)
    clear hw
    go_wp2_with fail
    have HLb:=Lib.hid (HL.out _ x HX.out)
    rw [if_neg hks] at HLb
    obtain ⟨X,hXe⟩:∃ X,X=strB x:=⟨_,rfl⟩
    rw [← hXe] at HLb
    have HTk:Hid ((L.take (kk+1)).map (fun x=>Value.string (strB x))=(L.take kk).map (fun x=>Value.string (strB x))++[.string X]):=Lib.hid (by
     rw [List.take_add_one,HX.out,hXe];simp)
    clear hXe
    refine (HLb.out _ HP1.out).mono ?_
    rintro e w2 ⟨rfl,hw⟩
    have HP2:=Lib.hid hw.1
    have HO2:=Lib.hid (HO1.out.kept hw.2 (own_apart2 HO1.out hbl))
    have HG2:=Lib.hid (grown_trans HG1.out hw.2)
    have hzw2:=HG2.out.size
    clear hw HLb
    go_wp2_with (at_builtin;refine wpList_append_own _ rfl _ _ 23 rfl w.heap.size 9 i0 (.string ⟨#[]⟩) 1 16 Tryz.underlying23 hi hz0 hz1 hz2 rfl (by decide) _ _ _ rfl (HO2.out.alloc _) ⟨w2.heap.size,0,none⟩ 1 1 [.string X] rfl rfl (cell_one_new _ _ _) (by simp [Value.oneCell']) (by unfold maxLen;omega) (by omega) (by simp;omega) ?_;intro v' w4 hown' hgrow _;obtain ⟨A3,c3,rfl⟩:=own_slice hown';have HO4:=Lib.hid hown';have HP4:=Lib.hid ((HP2.out.kept (World.grownBy_alloc w2 _ none) (by simp) (by simp)).kept hgrow (own_ne2 HO2.out hbl) (own_ne2 HO2.out hgl));have HG4:=Lib.hid (grown_own2 (grown_trans HG2.out (World.grownBy_alloc w2 _ _)) hgrow (fun k hk=>own_from2 HO2.out hk));clear hown' hgrow)
    go_roundw
    case rel=>exact ⟨kk+1,A3,c3,by omega,.inr ⟨by omega,rfl⟩,rfl,Lib.hid (by rw [HTk.out];exact HO4.out),HP4,HG4⟩
    case measure=>simp [slLen2];omega
   ·obtain rfl:kk=n:=by omega
    obtain ⟨t,ht,hts⟩:=HD.out
    have HSk:=Lib.hid (skip_no b g go c ts (hd kk) dp t ⟨#[44]⟩ wr hP.out ht (by rw [hts];decide))
    clear hts ht
    go_wp2_with fail
    refine HSk.out.mono ?_
    rintro e w1 ⟨rfl,hb⟩
    have HP1:=Lib.hid (hP.out.below hb)
    have HO1:=Lib.hid (hO.out.kept (grown_below hb none) (by cases (Value.slice A' kk c').ownBlock <;> simp))
    have HG1:=Lib.hid (grown_trans hG.out (grown_below hb _))
    clear hb
    go_wp2_with fail
    rw [Exit.noGoto_ret]
    go_ret
    have ho:=HO1.out
    rw [List.take_of_length_le (by rw [← HN.out];exact Nat.le_refl _)] at ho
    exact ⟨A',c',by rw [← HN.out];rfl,by rw [← HN.out];exact ho,by rw [← HN.out];exact ⟨HP1.out,HG1.out⟩⟩
abbrev Am:=(List UInt8 × List (List UInt8)) × Ex
def ArmC (P:Nat→Prop)(w:World)(x:Am)(c:List Value):Prop :=
 ∃ A cc cs,(okS x.1.1∧(∀ y∈x.1.2,okS y)∧x.1.2.length≤cc∧cc≤maxLen)∧cs.length=7∧c=.string (strB x.1.1) :: .slice A x.1.2.length cc :: cs∧NamesAt P w A x.1.2∧RepE P w x.2 cs
theorem ArmC.nine {P:Nat→Prop}{w:World}{x:Am}{c:List Value}(h:ArmC P w x c):c.length=9:=by
 obtain ⟨A,cc,cs,_,h7,rfl,_⟩:=h;simp [h7]
theorem ArmC.keep {P:Nat→Prop}{w w':World}{x:Am}{c:List Value}(h:ArmC P w x c)(hs:Same P w w'):ArmC P w' x c:=by
 obtain ⟨A,cc,cs,h1,h7,e,hn,hr⟩:=h
 exact ⟨A,cc,cs,h1,h7,e,hn.keep hs,hr.keep hs⟩
theorem ArmC.weaken {P Q:Nat→Prop}{w:World}{x:Am}{c:List Value}(h:ArmC P w x c)(hq:∀ y,P y→Q y):ArmC Q w x c:=by
 obtain ⟨A,cc,cs,h1,h7,e,hn,hr⟩:=h
 exact ⟨A,cc,cs,h1,h7,e,hn.weaken hq,hr.weaken hq⟩
theorem ArmC.tight {P:Nat→Prop}{w:World}{x:Am}{c:List Value}(h:ArmC P w x c):ArmC (fun y=>P y∧y < w.heap.size) w x c:=by
 obtain ⟨A,cc,cs,h1,h7,e,hn,hr⟩:=h
 exact ⟨A,cc,cs,h1,h7,e,hn.tight,hr.tight⟩
theorem flat9_at:∀ {cl:List (List Value)},(∀ c∈cl,c.length=9)→∀ (j i:Nat) (c:List Value),cl[j]?=some c→i < 9→cl.flatten[j*9+i]?=c[i]?
 | [],_,j,i,c,hj,_=>by simp at hj
 | x :: r,h,0,i,c,hj,hi=>by
  simp only [List.getElem?_cons_zero,Option.some.injEq] at hj
  subst hj
  rw [List.flatten_cons,Nat.zero_mul,Nat.zero_add,List.getElem?_append_left (by rw [h x (by simp)];exact hi)]
 | x :: r,h,j+1,i,c,hj,hi=>by
  simp only [List.getElem?_cons_succ] at hj
  rw [List.flatten_cons,List.getElem?_append_right (by rw [h x (by simp)];omega),h x (by simp),show (j+1)*9+i - 9=j*9+i by omega]
  exact flat9_at (fun y hy=>h y (by simp [hy])) j i c hj hi
def CellsA (P:Nat→Prop)(w:World)(l:List Am)(cl:List (List Value)):Prop:=cl.length=l.length∧∀ (j:Nat) (e:Am) (c:List Value),l[j]?=some e→cl[j]?=some c→ArmC P w e c
theorem CellsA.nine {P:Nat→Prop}{w:World}{l:List Am}{cl:List (List Value)}(h:CellsA P w l cl):∀ c∈cl,c.length=9:=fun c hc=>by
 obtain ⟨j,hj,rfl⟩:=List.getElem_of_mem hc
 exact (h.2 j _ _ (List.getElem?_eq_getElem (by rw [← h.1];exact hj)) (List.getElem?_eq_getElem hj)).nine
theorem CellsA.keep {P:Nat→Prop}{w w':World}{l:List Am}{cl:List (List Value)}(h:CellsA P w l cl)(hs:Same P w w'):CellsA P w' l cl:=⟨h.1,fun j e c h1 h2=>(h.2 j e c h1 h2).keep hs⟩
theorem CellsA.weaken {P Q:Nat→Prop}{w:World}{l:List Am}{cl:List (List Value)}(h:CellsA P w l cl)(hq:∀ x,P x→Q x):CellsA Q w l cl:=⟨h.1,fun j e c h1 h2=>(h.2 j e c h1 h2).weaken hq⟩
theorem CellsA.tight {P:Nat→Prop}{w:World}{l:List Am}{cl:List (List Value)}(h:CellsA P w l cl):CellsA (fun x=>P x∧x < w.heap.size) w l cl:=⟨h.1,fun j e c h1 h2=>(h.2 j e c h1 h2).tight⟩
theorem CellsA.snoc {P:Nat→Prop}{w:World}{l:List Am}{cl:List (List Value)}(h:CellsA P w l cl){e:Am}{c:List Value}(hr:ArmC P w e c):CellsA P w (l++[e]) (cl++[c]):=by
 refine ⟨by simp [h.1],fun j e' c' h1 h2=>?_⟩
 by_cases hj:j < l.length
 ·rw [List.getElem?_append_left hj] at h1
  rw [List.getElem?_append_left (by rw [h.1];exact hj)] at h2
  exact h.2 j e' c' h1 h2
 ·rw [List.getElem?_append_right (by omega)] at h1
  rw [List.getElem?_append_right (by rw [h.1];omega),h.1] at h2
  cases hz:j - l.length with
  | zero =>
   rw [hz] at h1 h2
   simp only [List.getElem?_cons_zero,Option.some.injEq] at h1 h2
   subst h1;subst h2;exact hr
  | succ m=>rw [hz] at h1;simp at h1
theorem CellsA.list {base:Nat}{w:World}{l:List Am}{cl:List (List Value)}{A:Option Addr}{n c:Nat}(h:CellsA (fun x=>base≤x) w l cl)(hn:n=l.length)(ho:w.ownsRow base 57 9 (.slice A n c) n cl.flatten) :
  (l≠[]→∃ b off,A=some ⟨b,off,none⟩∧base≤b∧b < w.heap.size∧RepA (fun x=>base≤x) w b off (l.map (·.1)) (l.map (·.2)))∧n≤c∧c≤maxLen:=by
 rcases ho.2 with ⟨e,h0⟩ | ⟨g,cap,cur,e,hb,hg,h1,h2,_⟩
 ·injection e with e1 e2 e3
  subst e1 e3
  have:l=[]:=List.length_eq_zero_iff.1 (by omega)
  subst this
  exact ⟨fun h=>absurd rfl h,by omega,by unfold maxLen;omega⟩
 ·injection e with e1 e2 e3
  subst e1 e3
  refine ⟨fun _=>⟨g,0,rfl,hb,(Array.getElem?_eq_some_iff.1 hg).1,RepA.of (by simp) fun j x hj=>?_⟩,h1,h2⟩
  rw [List.getElem?_map] at hj
  cases hl:l[j]? with
  | none=>rw [hl] at hj;simp at hj
  | some y =>
   rw [hl] at hj
   simp only [Option.map_some,Option.some.injEq] at hj
   subst hj
   have hjl:=(List.getElem?_eq_some_iff.1 hl).1
   have hjc:j < cl.length:=by rw [h.1];exact hjl
   have hr:=h.2 j y _ hl (List.getElem?_eq_getElem hjc)
   obtain ⟨A',cc,cs,⟨k1,k2,k3,k4⟩,h7,e,hnm,hre⟩:=hr
   refine ⟨y.1,by rw [List.getElem?_map,hl];rfl,A',cc,cs,k1,k2,k3,k4,h7,fun i v hi=>?_,hnm,hre⟩
   have hi9:i < 9:=by have:=(List.getElem?_eq_some_iff.1 hi).1;simp [h7] at this;exact this
   rw [Nat.zero_add,ho.cellAt (j*9+i) (by omega),flat9_at h.nine j i _ (List.getElem?_eq_getElem hjc) hi9,e]
   exact hi
theorem infoAm:(Tryz.prog.info? 57).map (fun i=>(i.zero,i.size,i.bytes))=some (some (.agg #[.string ⟨#[]⟩,.slice none 0 0,.int .i64 0,.int .i64 0,.string ⟨#[]⟩,.string ⟨#[]⟩,.slice none 0 0,.slice none 0 0,.slice none 0 0]),9,160):=by kernel_rfl
theorem cell_am (w:World)(v0 v1 v2 v3 v4 v5 v6 v7 v8:Value)(t:TypeId):∀ j u,([v0,v1,v2,v3,v4,v5,v6,v7,v8]:List Value)[j]?=some u→(w.alloc (.cells #[v0,v1,v2,v3,v4,v5,v6,v7,v8] t)).cell? ((⟨w.heap.size,0,none⟩:Addr).add j)=some u:=by
 intro j u hj
 match j,hj with
 | 0,hj=>simp at hj;subst hj;simp [Addr.add]
 | 1,hj=>simp at hj;subst hj;simp [Addr.add]
 | 2,hj=>simp at hj;subst hj;simp [Addr.add]
 | 3,hj=>simp at hj;subst hj;simp [Addr.add]
 | 4,hj=>simp at hj;subst hj;simp [Addr.add]
 | 5,hj=>simp at hj;subst hj;simp [Addr.add]
 | 6,hj=>simp at hj;subst hj;simp [Addr.add]
 | 7,hj=>simp at hj;subst hj;simp [Addr.add]
 | 8,hj=>simp at hj;subst hj;simp [Addr.add]
 | j+9,hj=>simp at hj
theorem cell_am2 (w:World)(v0 v1 v2 v3 v4 v5 v6 v7 v8:Value):∀ j u,([v0,v1,v2,v3,v4,v5,v6,v7,v8]:List Value)[j]?=some u→((w.alloc (.cells #[v0,v1,v2,v3,v4,v5,v6,v7,v8] 57)).alloc (.cells #[v0,v1,v2,v3,v4,v5,v6,v7,v8] 57)).cell? ((⟨w.heap.size+1,0,none⟩:Addr).add j)=some u:=by
 have:=cell_am (w.alloc (.cells #[v0,v1,v2,v3,v4,v5,v6,v7,v8] 57)) v0 v1 v2 v3 v4 v5 v6 v7 v8 57
 rw [World.size_alloc] at this
 exact this
theorem am_one (o:ByteArray)(An:Option Addr)(nn cn:Nat)(k m:Int)(s u:ByteArray)(A0:Option Addr)(n0 m0:Nat)(A1:Option Addr)(n1 m1:Nat)(A2:Option Addr)(n2 m2:Nat):∀ x∈([.string o,.slice An nn cn,.int .i64 k,.int .i64 m,.string s,.string u,.slice A0 n0 m0,.slice A1 n1 m1,.slice A2 n2 m2]:List Value),x.oneCell'=true:=by
 intro x hx
 simp only [List.mem_cons,List.not_mem_nil,or_false] at hx
 rcases hx with rfl | rfl | rfl | rfl | rfl | rfl | rfl | rfl | rfl <;> rfl
def ArmsTo (w:World)(b g go c:Nat)(ts:List Rt)(nx dp:Nat)(l:List Am)(e:Ending)(w':World):Prop :=
 ∃ A cap,e=.returned (.slice A l.length cap)∧(l≠[]→∃ x off,A=some ⟨x,off,none⟩∧w.heap.size≤x∧x < w'.heap.size∧RepA (fun x=>w.heap.size≤x) w' x off (l.map (·.1)) (l.map (·.2)))∧(l.length≤cap∧cap≤maxLen)∧Went w w' b g go c ts nx dp
def BxB (w:World)(x:Nat)(v:Bool):Prop:=w.heap[x]?=some (.cells #[.bool v] 4 (0,0))
theorem BxB.lt {w:World}{x:Nat}{v:Bool}(h:BxB w x v):x < w.heap.size:=(Array.getElem?_eq_some_iff.1 h).1
theorem BxB.c {w:World}{x:Nat}{v:Bool}(h:BxB w x v):w.cell? ⟨x,0,none⟩=some (.bool v):=cell_of_row w x 0 _ _ (0,0) h
theorem BxB.fr {w:World}{x:Nat}{v:Bool}(h:BxB w x v)(i:Nat):w.frozen? ⟨x,i,none⟩=false:=by
 unfold BxB at h;simp [World.frozen?,h]
theorem BxB.kept {w w':World}{x:Nat}{v:Bool}(h:BxB w x v){row:Option Nat}(hg:w.grownBy w' row)(hne:some x≠row):BxB w' x v:=(hg.block x h.lt hne).trans h
theorem BxB.set {w:World}{x:Nat}{v:Bool}(h:BxB w x v)(v':Bool):BxB (w.setCell ⟨x,0,none⟩ (.bool v')) x v':=by
 unfold BxB at h ⊢;simp [World.setCell,Array.getElem?_modify,h]
theorem v_nm {s:Txt}(h:isV s=true):isNm 1 s=true∧isKw s=false:=by
 unfold isV at h
 rw [Bool.and_eq_true] at h
 exact ⟨h.1,by simpa using h.2⟩
theorem wk_v {s:Txt}(h:isV s=true):wk s=(0,s,0):=by
 unfold wk;rw [tok_var (v_nm h).1 (v_nm h).2];rfl
theorem wk_u {s:Txt}(h:isNm 2 s=true):wk s=(2,s,0):=by
 unfold wk;rw [tok_upper h];rfl
theorem wk_k {s:Txt}(h:isKw s=true):wk s=(1,s,0):=by
 unfold wk;rw [tok_kw h];rfl
def badS:List Txt:=[[41],[45],[46],[91],[93],[125]]
def wordS:List Txt:=[[102,117,110],[108,101,116],[114,101,99],[105,102],[117,115,105,110,103]]
def headS:List Txt:=[[100,111],[109,97,115,107],[114,101,115,117,109,101],[100,114,111,112]]
def atomS:List Txt:=[[116,114,117,101],[102,97,108,115,101],[40],[109,97,116,99,104],[104,97,110,100,108,101],[115,104,97,108,108,111,119],[110,97,109,101,100]]
theorem v_nin {s:Txt}(h:isV s=true){L:List Txt}(hL:∀ x∈L,isV x=false):s ∉ L:=fun hm=>by have:=hL s hm;rw [h] at this;cases this
theorem u_nin {s:Txt}(h:isNm 2 s=true){L:List Txt}(hL:∀ x∈L,isNm 2 x=false):s ∉ L:=fun hm=>by have:=hL s hm;rw [h] at this;cases this
def Bg0 (ks:List Ky):Prop:=∃ k r,ks=k :: r∧k.2.1 ∉ badS
def Bg1 (ks:List Ky):Prop:=∃ k r,ks=k :: r∧k.2.1 ∉ badS∧k.2.1 ∉ wordS
def Bg5 (ks:List Ky):Prop:=∃ k r,ks=k :: r∧k.2.1 ∉ badS∧k.2.1 ∉ wordS∧k.2.1 ∉ headS∧(k.1=0∨k.1=2∨k.1=3∨k.2.1∈atomS)∧0≤k.1∧k.1≤4
theorem Bg1.b0 {ks:List Ky}(h:Bg1 ks):Bg0 ks:=by obtain ⟨k,r,e,h1,_⟩:=h;exact ⟨k,r,e,h1⟩
theorem Bg5.b1 {ks:List Ky}(h:Bg5 ks):Bg1 ks:=by obtain ⟨k,r,e,h1,h2,_⟩:=h;exact ⟨k,r,e,h1,h2⟩
theorem Bg1.app {a b:List Ky}(h:Bg1 a):Bg1 (a++b):=by obtain ⟨k,r,rfl,h1⟩:=h;exact ⟨k,r++b,rfl,h1⟩
theorem bg5 (k:Int)(s:Txt)(n:Int)(r:List Ky)(h1:s ∉ badS)(h2:s ∉ wordS)(h3:s ∉ headS)(h4:k=0∨k=2∨k=3∨s∈atomS)(h5:0≤k)(h6:k≤4):Bg5 ((k,s,n) :: r):=⟨_,_,rfl,h1,h2,h3,h4,h5,h6⟩
theorem lvl {a b:Int}{e:Ex}(h:e.lv=b)(hab:a≤b):a≤e.lv:=by omega
theorem no1 {e:Ex}(h:e.lv=0):¬ 1≤e.lv:=by omega
theorem no5 {e:Ex}(h:e.lv=4):¬ 5≤e.lv:=by omega
theorem b5_par (r:List Ky):Bg5 ((4,[40],0) :: r):=bg5 _ _ _ _ (by decide) (by decide) (by decide) (.inr (.inr (.inr (by decide)))) (by decide) (by decide)
theorem b5_v {s:Txt}(h:isV s=true)(r:List Ky):Bg5 (wk s :: r):=by
 rw [wk_v h]
 exact bg5 _ _ _ _ (v_nin h (by decide)) (v_nin h (by decide)) (v_nin h (by decide)) (.inl rfl) (by decide) (by decide)
theorem b5_u {s:Txt}(h:isNm 2 s=true)(r:List Ky):Bg5 (wk s :: r):=by
 rw [wk_u h]
 exact bg5 _ _ _ _ (u_nin h (by decide)) (u_nin h (by decide)) (u_nin h (by decide)) (.inr (.inl rfl)) (by decide) (by decide)
theorem b5_k {s:Txt}(h:isKw s=true)(h1:s ∉ badS)(h2:s ∉ wordS)(h3:s ∉ headS)(h4:s∈atomS)(r:List Ky):Bg5 (wk s :: r):=by
 rw [wk_k h]
 exact bg5 _ _ _ _ h1 h2 h3 (.inr (.inr (.inr h4))) (by decide) (by decide)
theorem b1_k {s:Txt}(h:isKw s=true)(h1:s ∉ badS)(h2:s ∉ wordS)(r:List Ky):Bg1 (wk s :: r):=by
 rw [wk_k h]
 exact ⟨_,_,rfl,h1,h2⟩
theorem b0_k {s:Txt}(h:isKw s=true)(h1:s ∉ badS)(r:List Ky):Bg0 (wk s :: r):=by
 rw [wk_k h]
 exact ⟨_,_,rfl,h1⟩
theorem atKE_in {a:Int}{e:Ex}(h:a≤e.lv):atKE a e=exK e:=by
 unfold atKE atK'
 rw [show e.kp=(e.lv,exK e) from rfl,if_pos h]
theorem atKE_out {a:Int}{e:Ex}(h:¬ a≤e.lv):atKE a e=(4,[40],0) :: (exK e++[(4,[41],0)]):=by
 unfold atKE atK'
 rw [show e.kp=(e.lv,exK e) from rfl,if_neg h]
theorem atKE_eq {a b:Int}{e:Ex}(h:a≤e.lv↔b≤e.lv):atKE a e=atKE b e:=by
 by_cases hc:a≤e.lv
 ·rw [atKE_in hc,atKE_in (h.1 hc)]
 ·rw [atKE_out hc,atKE_out (fun hb=>hc (h.2 hb))]
theorem k_var (n:Int)(s t:Txt):exK (.mk 0 n s t [] [] [] [])=[wk s]:=by rw [exK_mk];rfl
theorem k_int (n:Int):exK (.mk 1 n [] [] [] [] [] [])=if n < 0 then [(4,[40],0),(4,[45],0),(3,[],-n),(4,[41],0)] else [(3,[],n)]:=by rw [exK_mk];rfl
theorem k_bool (n:Int):exK (.mk 2 n [] [] [] [] [] [])=if n=0 then [wk [102,97,108,115,101]] else [wk [116,114,117,101]]:=by rw [exK_mk];rfl
theorem k_unit:exK (.mk 3 0 [] [] [] [] [] [])=[(4,[40],0),(4,[41],0)]:=by rw [exK_mk];rfl
theorem k_fun (a:Txt)(e0:Ex):exK (.mk 4 0 [] [] [a] [e0] [] [])=wk [102,117,110] :: wk a :: (4,[45,62],0) :: atKE 0 e0:=by rw [exK_mk];simp [nodeKE,behindK,spacedK,atKE]
theorem k_app (e0 e1:Ex):exK (.mk 5 0 [] [] [] [e0,e1] [] [])=atKE 4 e0++atKE 5 e1:=by rw [exK_mk];rfl
theorem k_let (a:Txt)(e0 e1:Ex):exK (.mk 6 0 [] [] [a] [e0,e1] [] [])=wk [108,101,116] :: wk a :: (4,[61],0) :: (atKE 0 e0++(wk [105,110] :: atKE 0 e1)):=by rw [exK_mk];simp [nodeKE,behindK,spacedK,atKE]
theorem k_rec (a b:Txt)(e0 e1:Ex):exK (.mk 7 0 [] [] [a,b] [e0,e1] [] [])=wk [114,101,99] :: wk a :: wk b :: (4,[61],0) :: (atKE 0 e0++(wk [105,110] :: atKE 0 e1)):=by rw [exK_mk];simp [nodeKE,behindK,spacedK,atKE]
theorem k_if (e0 e1 e2:Ex):exK (.mk 8 0 [] [] [] [e0,e1,e2] [] [])=wk [105,102] :: (atKE 0 e0++(wk [116,104,101,110] :: (atKE 0 e1++(wk [101,108,115,101] :: atKE 0 e2)))):=by rw [exK_mk];simp [nodeKE,behindK,atKE]
theorem k_prim (s:Txt)(lv:Int)(e0 e1:Ex)(h:opLv s=some lv):exK (.mk 9 0 s [] [] [e0,e1] [] [])=atKE (operandLv lv) e0++((4,s,0) :: atKE (lv+1) e1):=by rw [exK_mk];simp [nodeKE,nthK,atKE,h]
theorem k_con (s:Txt)(l:List Ex):exK (.mk 10 0 s [] [] l [] [])=wk s :: (if l.length=0 then [] else (4,[91],0) :: (listKy (4,[44],0) (l.map (atKE 0))++[(4,[93],0)])):=by
 rw [exK_mk]
 have e:(l.map Ex.kp).map (atK' 0)=l.map (atKE 0):=by rw [List.map_map];rfl
 show (wk s :: (if (l.map Ex.kp).length=0 then [] else (4,[91],0) :: (listKy (4,[44],0) ((l.map Ex.kp).map (atK' 0))++[(4,[93],0)])))=_
 rw [e,List.length_map]
def armKE (x:Am):List Ky:=wk x.1.1 :: (x.1.2.map wk++((4,[45,62],0) :: atKE 0 x.2))
def armsKE (L:List Am):List Ky:=(4,[123],0) :: (listKy (4,[59],0) (L.map armKE)++[(4,[125],0)])
theorem zip_arms:∀ (ops:List (Txt × List Txt)) (bs:List Ex),List.zipWith armK ops (bs.map Ex.kp)=(ops.zip bs).map armKE
 | [],_=>rfl
 | _ :: _,[]=>rfl
 | o :: r,e :: q=>by rw [List.map_cons,List.zipWith_cons_cons,zip_arms r q];rfl
theorem k_match (e0:Ex)(ops:List (Txt × List Txt))(bs:List Ex):exK (.mk 11 0 [] [] [] [e0] ops bs)=wk [109,97,116,99,104] :: (atKE 0 e0++armsKE (ops.zip bs)):=by
 rw [exK_mk];unfold armsKE;rw [← zip_arms];rfl
theorem k_do (s:Txt)(e0:Ex):exK (.mk 12 0 s [] [] [e0] [] [])=wk [100,111] :: wk s :: atKE 5 e0:=by rw [exK_mk];rfl
theorem k_at (s t:Txt)(e0:Ex):exK (.mk 13 0 s t [] [e0] [] [])=wk s :: (4,[46],0) :: wk t :: atKE 5 e0:=by rw [exK_mk];rfl
theorem k_handle (n:Int)(s:Txt)(e0:Ex)(ops:List (Txt × List Txt))(bs:List Ex):exK (.mk 14 n s [] [] [e0] ops bs)=wk (if n=1 then [115,104,97,108,108,111,119] else [104,97,110,100,108,101]) :: wk s :: (atKE 0 e0++armsKE (ops.zip bs)):=by
 rw [exK_mk];unfold armsKE;rw [← zip_arms];rfl
theorem k_named (s a:Txt)(e0:Ex)(ops:List (Txt × List Txt))(bs:List Ex):exK (.mk 15 0 s [] [a] [e0] ops bs)=wk [110,97,109,101,100] :: wk a :: wk s :: (atKE 0 e0++armsKE (ops.zip bs)):=by
 rw [exK_mk];unfold armsKE;rw [← zip_arms];rfl
theorem k_mask (s:Txt)(e0:Ex):exK (.mk 16 0 s [] [] [e0] [] [])=wk [109,97,115,107] :: wk s :: atKE 5 e0:=by rw [exK_mk];rfl
theorem k_using (a:Txt)(rn:List Txt)(e0 e1 e2:Ex):exK (.mk 17 0 [] [] (a :: rn) [e0,e1,e2] [] [])=wk [117,115,105,110,103] :: wk a :: (4,[91],0) :: (listKy (4,[44],0) (rn.map fun x=>[wk x])++((4,[93],0) :: (4,[61],0) :: (atKE 0 e0++(wk [99,108,111,115,101] :: (atKE 0 e1++(wk [105,110] :: atKE 0 e2)))))):=by
 rw [exK_mk];simp [nodeKE,behindK,atKE]
theorem k_resume (s:Txt)(e0:Ex):exK (.mk 18 0 s [] [] [e0] [] [])=wk [114,101,115,117,109,101] :: wk s :: atKE 5 e0:=by rw [exK_mk];rfl
theorem k_drop (s:Txt):exK (.mk 19 0 s [] [] [] [] [])=[wk [100,114,111,112],wk s]:=by rw [exK_mk];rfl
theorem opLv_bd {s:Txt}{lv:Int}(h:opLv s=some lv):1≤lv∧lv≤3:=by
 unfold opLv at h
 repeat' split at h
 all_goals first | (cases h;done) | skip
 all_goals (simp only [Option.some.injEq] at h;omega)
theorem b5_at {e:Ex}(h:5≤e.lv→Bg5 (exK e)):Bg5 (atKE 5 e):=by
 by_cases hc:5≤e.lv
 ·rw [atKE_in hc];exact h hc
 ·rw [atKE_out hc];exact b5_par _
theorem b1_at {a:Int}(ha:1≤a){e:Ex}(h:1≤e.lv→Bg1 (exK e)):Bg1 (atKE a e):=by
 by_cases hc:a≤e.lv
 ·rw [atKE_in hc];exact h (by omega)
 ·rw [atKE_out hc];exact (b5_par _).b1
theorem beg_all:∀ e,wfE e→evn e→Bg0 (exK e)∧(1≤e.lv→Bg1 (exK e))∧(5≤e.lv→Bg5 (exK e)):=by
 refine Ex.ind fun e ih hw hv=>?_
 have all5:∀ {ks:List Ky},Bg5 ks→Bg0 ks∧(1≤e.lv→Bg1 ks)∧(5≤e.lv→Bg5 ks):=fun h=>⟨h.b1.b0,fun _=>h.b1,fun _=>h⟩
 have all4:∀ {ks:List Ky},Bg1 ks→¬ 5≤e.lv→Bg0 ks∧(1≤e.lv→Bg1 ks)∧(5≤e.lv→Bg5 ks):=fun h hn=>⟨h.b0,fun _=>h,fun h5=>absurd h5 hn⟩
 have all0:∀ {ks:List Ky},Bg0 ks→¬ 1≤e.lv→Bg0 ks∧(1≤e.lv→Bg1 ks)∧(5≤e.lv→Bg5 ks):=fun h hn=>⟨h,fun h1=>absurd h1 hn,fun h5=>absurd (by omega) hn⟩
 have hpw:∀ x∈e.parts,wfE x∧evn x:=by
  cases e with
  | mk k n s t ns l ops bs =>
   intro x hx
   rcases List.mem_append.1 hx with hx | hx
   ·exact ⟨hw.parts.2.1 x hx,hv.parts.2.1 x hx⟩
   ·exact ⟨hw.parts.2.2 x hx,hv.parts.2.2 x hx⟩
 cases wf_frm e hw hv with
 | var s h=>rw [k_var];exact all5 (b5_v h _)
 | int n h =>
  rw [k_int]
  by_cases h0:n < 0
  ·rw [if_pos h0];exact all5 (b5_par _)
  ·rw [if_neg h0];exact all5 (bg5 _ _ _ _ (by decide) (by decide) (by decide) (.inr (.inr (.inl rfl))) (by decide) (by decide))
 | bool n h =>
  rw [k_bool]
  by_cases h0:n=0
  ·rw [if_pos h0];exact all5 (b5_k (by decide) (by decide) (by decide) (by decide) (by decide) _)
  ·rw [if_neg h0];exact all5 (b5_k (by decide) (by decide) (by decide) (by decide) (by decide) _)
 | unit=>rw [k_unit];exact all5 (b5_par _)
 | fn a e0 h=>rw [k_fun];exact all0 (b0_k (by decide) (by decide) _) (no1 rfl)
 | app e0 e1 =>
  rw [k_app]
  have:=hpw e0 (by simp [Ex.parts,Ex.l,Ex.bs])
  exact all4 (b1_at (by decide) (ih e0 (by simp [Ex.parts,Ex.l,Ex.bs]) this.1 this.2).2.1).app (no5 rfl)
 | lett a e0 e1 h=>rw [k_let];exact all0 (b0_k (by decide) (by decide) _) (no1 rfl)
 | recc a b e0 e1 h h'=>rw [k_rec];exact all0 (b0_k (by decide) (by decide) _) (no1 rfl)
 | iff e0 e1 e2=>rw [k_if];exact all0 (b0_k (by decide) (by decide) _) (no1 rfl)
 | prim s lv e0 e1 h =>
  rw [k_prim s lv e0 e1 h]
  have:=hpw e0 (by simp [Ex.parts,Ex.l,Ex.bs])
  have hb:=opLv_bd h
  have hlv:(Ex.mk 9 0 s [] [] [e0,e1] [] []).lv=lv:=by
   show lvO 9 s=lv
   unfold lvO
   rw [if_pos rfl,h];rfl
  exact all4 (b1_at (by unfold operandLv;split <;> omega) (ih e0 (by simp [Ex.parts,Ex.l,Ex.bs]) this.1 this.2).2.1).app (by rw [hlv];omega)
 | con s l h hl=>rw [k_con];exact all5 (b5_u h _)
 | mtch e0 ops bs h h' h''=>rw [k_match];exact all5 (b5_k (by decide) (by decide) (by decide) (by decide) (by decide) _)
 | doo s e0 h=>rw [k_do];exact all4 (b1_k (by decide) (by decide) (by decide) _) (no5 rfl)
 | att s t e0 h h'=>rw [k_at];exact all4 (b5_v h _).b1 (no5 rfl)
 | handle n s e0 ops bs hn h h' h'' hc =>
  rw [k_handle]
  rcases hn with rfl | rfl
  ·exact all5 (b5_k (by decide) (by decide) (by decide) (by decide) (by decide) _)
  ·exact all5 (b5_k (by decide) (by decide) (by decide) (by decide) (by decide) _)
 | named s a e0 ops bs h h' h'' hb hc=>rw [k_named];exact all5 (b5_k (by decide) (by decide) (by decide) (by decide) (by decide) _)
 | mask s e0 h=>rw [k_mask];exact all4 (b1_k (by decide) (by decide) (by decide) _) (no5 rfl)
 | usin a rn e0 e1 e2 h h' h''=>rw [k_using];exact all0 (b0_k (by decide) (by decide) _) (no1 rfl)
 | resume s e0 h=>rw [k_resume];exact all4 (b1_k (by decide) (by decide) (by decide) _) (no5 rfl)
 | drop s h=>rw [k_drop];exact all4 (b1_k (by decide) (by decide) (by decide) _) (no5 rfl)
end Go.Proofs.YtpjabnemkmdobaaGreatDoor
