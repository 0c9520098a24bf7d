/- Texts put together by program: EbF EbG EbAI EbAJ EbZ TakeG. -/
import Derived.Test.YtpjabnemkmdobaaGreatDoorMgG
import Derived.Test.YtpjabnemkmdobaaGreatDoorMgD
import Derived.Test.YtpjabnemkmdobaaGreatDoorMgI
import Derived.Test.YtpjabnemkmdobaaGreatDoorMgH
import Derived.Test.YtpjabnemkmdobaaGreatDoorMgB
import Derived.Deep.RegionHeld3
namespace Go.Proofs.YtpjabnemkmdobaaGreatDoor
open Go.RowKit
set_option maxRecDepth 100000 in
set_option maxHeartbeats 1000000 in
theorem nestedS_expr {F:Prop}(x b g go c:Nat)(ts:List Rt)(nx dp nx':Nat)(ex:Ex)(w:World)(h:PS w b g go c ts nx dp)(hx:BoxP w x b)(hd:dp+1≤400)
  (HC:Hid (∀ w',PS w' b g go c ts nx (dp+1)→BoxP w' x b→Calls Tryz.prog 55 #[.pointer (some ⟨x,0,none⟩)] w' (OF F w' b g go c ts (ExprTo w' b g go c ts nx' (dp+1) ex)))) :
  Calls Tryz.prog 54 #[.pointer (some ⟨b,0,none⟩),.func (.func 55) #[] #[.pointer (some ⟨x,0,none⟩)]] w (OF F w b g go c ts (ExprTo w b g go c ts nx' dp ex)):=by
 have c2:=h.c2
 have f2:=h.fr 2
 have hbl:=h.blt
 have hgl:=h.lt
 have hxl:=hx.lt
 have hxb:=hx.ne h
 have H:=Lib.hid h
 have HX:=Lib.hid hx
 have H1:Hid (PS (w.setCell ⟨b,2,none⟩ (.int .i64 ((dp:Int)+1))) b g go c ts nx (dp+1)):=by have:=h.set2 (dp+1);rw [Int.natCast_add] at this;exact this
 have HX1:Hid (BoxP (w.setCell ⟨b,2,none⟩ (.int .i64 ((dp:Int)+1))) x b):=hx.kept (grown_set w ⟨b,2,none⟩ _) (by simp;omega)
 have q1:¬ w.heap.size=b:=by omega
 have q2:¬ b=w.heap.size:=by omega
 have i0:(dp:Int)+1≤400:=by omega
 clear h hx
 go_enter Tryz.func54,Tryz.ntmps54
 go_wp2_with fail
 obtain ⟨W1,hW1⟩:∃ W1,(w.setCell ⟨b,2,none⟩ (.int .i64 ((dp:Int)+1))).alloc (.cells #[.int .i64 0,.int .i64 0,.string ⟨#[]⟩,.string ⟨#[]⟩,.slice none 0 0,.slice none 0 0,.slice none 0 0] 27)=W1:=⟨_,rfl⟩
 have HPW:Hid (PS W1 b g go c ts nx (dp+1)):=by rw [← hW1];exact H1.out.below ((Below.refl _ _).alloc (Nat.le_refl _) _)
 have HXW:Hid (BoxP W1 x b):=by rw [← hW1];exact HX1.out.kept (World.grownBy_alloc _ _ none) (by simp)
 have HEW:Hid (EB W1 w.heap.size (.int .i64 0) (.int .i64 0) (.string ⟨#[]⟩) (.string ⟨#[]⟩) (.slice none 0 0) (.slice none 0 0) (.slice none 0 0)):=by
  have:=EB.new (w.setCell ⟨b,2,none⟩ (.int .i64 ((dp:Int)+1))) (.int .i64 0) (.int .i64 0) (.string ⟨#[]⟩) (.string ⟨#[]⟩) (.slice none 0 0) (.slice none 0 0) (.slice none 0 0)
  rw [hW1,size_set] at this;exact this
 have HGW:Hid (w.grownBy W1 (some b)):=by rw [← hW1];exact grown_trans (grown_set _ ⟨b,2,none⟩ _) (World.grownBy_alloc _ _ _)
 have hzW:W1.heap.size=w.heap.size+1:=by rw [← hW1];simp [World.setCell]
 rw [hW1]
 refine (HC.out W1 HPW.out HXW.out).mono ?_
 rintro e w2 (⟨k,n,s,t,A0,n0,m0,A1,n1,m1,A2,n2,m2,rfl,hr,hw⟩ | ⟨hF,nxF,hnF,rfl,dpF,hpF,hgF⟩)
 rotate_left
 ·exact ⟨rfl,.inr ⟨hF,nxF,hnF,rfl,dpF,hpF,grown_trans HGW.out hgF⟩⟩
 have HR:=Lib.hid hr
 have HP2:=Lib.hid hw.1
 have HG2:=Lib.hid hw.2
 have HE2:=Lib.hid (HEW.out.kept hw.2 (by simp;omega))
 have c2':=hw.1.c2
 rw [Int.natCast_add] at c2'
 have f2':=hw.1.fr 2
 have e0:=HE2.out.c0
 have e1:=HE2.out.c1
 have e2:=HE2.out.c2
 have e3:=HE2.out.c3
 have e4:=HE2.out.c4
 have e5:=HE2.out.c5
 have e6:=HE2.out.c6
 have r0:=HE2.out.fr 0
 have r1:=HE2.out.fr 1
 have r2:=HE2.out.fr 2
 have r3:=HE2.out.fr 3
 have r4:=HE2.out.fr 4
 have r5:=HE2.out.fr 5
 have r6:=HE2.out.fr 6
 have hz1:w.heap.size < w2.heap.size:=by have:=hw.2.size;omega
 have hz2:b < w2.heap.size:=by omega
 have HZ:=Lib.hid hzW
 clear hr hw hW1 hzW c2 f2 HC
 go_wp2_with fail
 have HP3:Hid (PS (w2.setCell ⟨b,2,none⟩ (.int .i64 (dp:Int))) b g go c ts nx' dp):=HP2.out.set2 dp
 have HE3:Hid (EB (w2.setCell ⟨b,2,none⟩ (.int .i64 (dp:Int))) w.heap.size (.int .i64 0) (.int .i64 0) (.string ⟨#[]⟩) (.string ⟨#[]⟩) (.slice none 0 0) (.slice none 0 0) (.slice none 0 0)):=HE2.out.kept (grown_set _ ⟨b,2,none⟩ _) (by simp;omega)
 have HG3:Hid (w.grownBy (w2.setCell ⟨b,2,none⟩ (.int .i64 (dp:Int))) (some b)):=grown_trans (grown_trans HGW.out HG2.out) (grown_set _ ⟨b,2,none⟩ _)
 have HS:Hid (∀ V,Same (fun x=>W1.heap.size≤x) w2 ((set7 (w2.setCell ⟨b,2,none⟩ (.int .i64 (dp:Int))) w.heap.size (.int .i64 k) (.int .i64 n) (.string s) (.string t) (.slice A0 n0 m0) (.slice A1 n1 m1) (.slice A2 n2 m2)).alloc V)):=fun V =>
  ((Same.of_grown (grown_set w2 ⟨b,2,none⟩ _) (fun x hx=>by simp;have:=HZ.out;omega)).trans (Same.of_grown (set7_grown _ _ _ _ _ _ _ _ _) (fun x hx=>by simp;have:=HZ.out;omega))).trans (Same.of_grown (World.grownBy_alloc _ _ none) (fun x hx=>by simp))
 exact bodyPost_retF (resNested rfl ((HE3.out.all (.int .i64 k) (.int .i64 n) (.string s) (.string t) (.slice A0 n0 m0) (.slice A1 n1 m1) (.slice A2 n2 m2)).kept (World.grownBy_alloc _ _ none) (by simp))) rfl
  ⟨k,n,s,t,A0,n0,m0,A1,n1,m1,A2,n2,m2,rfl,(HR.out.keep (HS.out _)).weaken (fun x hx=>by have:=HZ.out;omega),
   (HP3.out.kept (set7_grown _ _ _ _ _ _ _ _ _) (by simp;omega) (by simp;omega)).below ((Below.refl _ _).alloc (Nat.le_refl _) _),grown_trans (grown_7 HG3.out (Nat.le_refl _) _ _ _ _ _ _ _) (World.grownBy_alloc _ _ _)⟩
set_option maxRecDepth 100000 in
set_option maxHeartbeats 1000000 in
theorem nestedO_expr (x b g go c:Nat)(ts:List Rt)(nx:Nat)(w:World)(h:PS w b g go c ts nx 400) :
  Calls Tryz.prog 54 #[.pointer (some ⟨b,0,none⟩),.func (.func 55) #[] #[.pointer (some ⟨x,0,none⟩)]] w (FailTo w b g go c ts nx):=by
 have c2:=h.c2
 have f2:=h.fr 2
 have hbl:=h.blt
 have hgl:=h.lt
 have H1:Hid (PS (w.setCell ⟨b,2,none⟩ (.int .i64 401)) b g go c ts nx 401):=Lib.hid (h.set2 401)
 have q1:¬ w.heap.size=b:=by omega
 have q2:¬ b=w.heap.size:=by omega
 clear h
 go_enter Tryz.func54,Tryz.ntmps54
 go_wp2_with fail
 refine (fail_any _ _).mono ?_
 rintro e w2 ⟨rfl,rfl⟩
 exact ⟨rfl,rfl,401,H1.out.below ((Below.refl _ _).alloc (Nat.le_refl _) _),grown_trans (grown_set w ⟨b,2,none⟩ _) (World.grownBy_alloc _ _ _)⟩
theorem nestedF_expr {F:Prop}(x b g go c:Nat)(ts:List Rt)(nx dp nx':Nat)(ex:Ex)(w:World)(h:PS w b g go c ts nx dp)(hx:BoxP w x b)(hd:dp≤400)(hF:dp+1≤400∨F)(hnx:nx < ts.length)
  (HC:Hid (dp+1≤400→∀ w',PS w' b g go c ts nx (dp+1)→BoxP w' x b→Calls Tryz.prog 55 #[.pointer (some ⟨x,0,none⟩)] w' (OF F w' b g go c ts (ExprTo w' b g go c ts nx' (dp+1) ex)))) :
  Calls Tryz.prog 54 #[.pointer (some ⟨b,0,none⟩),.func (.func 55) #[] #[.pointer (some ⟨x,0,none⟩)]] w (OF F w b g go c ts (ExprTo w b g go c ts nx' dp ex)):=by
 by_cases h4:dp+1≤400
 ·exact nestedS_expr x b g go c ts nx dp nx' ex w h hx h4 (Lib.hid (HC.out h4))
 ·obtain rfl:dp=400:=by omega
  exact (nestedO_expr x b g go c ts nx w h).mono fun e w' hf=>.inr ⟨hF.resolve_left h4,nx,hnx,hf⟩
set_option maxRecDepth 100000 in
set_option maxHeartbeats 1000000 in
theorem exprF_any {F:Prop}(b g go c:Nat)(ts:List Rt)(nx dp nx':Nat)(ex:Ex)(w:World)(h:PS w b g go c ts nx dp)(hd:dp≤400)(hF:dp+1≤400∨F)(hnx:nx < ts.length)
  (HC:Hid (dp+1≤400→∀ x w',PS w' b g go c ts nx (dp+1)→BoxP w' x b→Calls Tryz.prog 55 #[.pointer (some ⟨x,0,none⟩)] w' (OF F w' b g go c ts (ExprTo w' b g go c ts nx' (dp+1) ex)))) :
  Calls Tryz.prog 20 #[.pointer (some ⟨b,0,none⟩)] w (OF F w b g go c ts (ExprTo w b g go c ts nx' dp ex)):=by
 have hbl:=h.blt
 have hgl:=h.lt
 have H:=Lib.hid h
 clear h
 go_enter Tryz.func20,Tryz.ntmps20
 go_wp2_with fail
 obtain ⟨W1,hW1⟩:∃ W1,(w.alloc (.cells #[.pointer (some ⟨b,0,none⟩)] 54)).alloc (.cells #[.int .i64 0,.int .i64 0,.string ⟨#[]⟩,.string ⟨#[]⟩,.slice none 0 0,.slice none 0 0,.slice none 0 0] 27)=W1:=⟨_,rfl⟩
 have HPW:Hid (PS W1 b g go c ts nx dp):=by rw [← hW1];exact H.out.below (((Below.refl _ _).alloc (Nat.le_refl _) _).alloc (by simp) _)
 have HXW:Hid (BoxP W1 w.heap.size b):=by rw [← hW1];exact (show BoxP (w.alloc (.cells #[.pointer (some ⟨b,0,none⟩)] 54)) w.heap.size b from heap_alloc_new w _).kept (World.grownBy_alloc _ _ none) (by simp)
 have HEW:Hid (EB W1 (w.heap.size+1) (.int .i64 0) (.int .i64 0) (.string ⟨#[]⟩) (.string ⟨#[]⟩) (.slice none 0 0) (.slice none 0 0) (.slice none 0 0)):=by
  have:=EB.new (w.alloc (.cells #[.pointer (some ⟨b,0,none⟩)] 54)) (.int .i64 0) (.int .i64 0) (.string ⟨#[]⟩) (.string ⟨#[]⟩) (.slice none 0 0) (.slice none 0 0) (.slice none 0 0)
  rw [hW1,World.size_alloc] at this;exact this
 have HGW:Hid (w.grownBy W1 (some b)):=by rw [← hW1];exact grown_trans (World.grownBy_alloc _ _ _) (World.grownBy_alloc _ _ _)
 have hzW:W1.heap.size=w.heap.size+2:=by rw [← hW1];simp
 rw [hW1]
 refine (nestedF_expr w.heap.size b g go c ts nx dp nx' ex W1 HPW.out HXW.out hd hF hnx (Lib.hid fun h4=>HC.out h4 _)).mono ?_
 rintro e w2 (⟨k,n,s,t,A0,n0,m0,A1,n1,m1,A2,n2,m2,rfl,hr,hw⟩ | ⟨hF,nxF,hnF,rfl,dpF,hpF,hgF⟩)
 rotate_left
 ·exact ⟨rfl,.inr ⟨hF,nxF,hnF,rfl,dpF,hpF,grown_trans HGW.out hgF⟩⟩
 have HR:=Lib.hid hr
 have HP2:=Lib.hid hw.1
 have HG2:=Lib.hid (grown_trans HGW.out hw.2)
 have HE2:=Lib.hid (HEW.out.kept hw.2 (by simp;omega))
 have e0:=HE2.out.c0
 have e1:=HE2.out.c1
 have e2:=HE2.out.c2
 have e3:=HE2.out.c3
 have e4:=HE2.out.c4
 have e5:=HE2.out.c5
 have e6:=HE2.out.c6
 have r0:=HE2.out.fr 0
 have r1:=HE2.out.fr 1
 have r2:=HE2.out.fr 2
 have r3:=HE2.out.fr 3
 have r4:=HE2.out.fr 4
 have r5:=HE2.out.fr 5
 have r6:=HE2.out.fr 6
 have HZ:=Lib.hid hzW
 clear hr hw hW1 hzW HC
 go_wp2_with fail
 exact bodyPost_retF (res_expr_any rfl (HE2.out.all (.int .i64 k) (.int .i64 n) (.string s) (.string t) (.slice A0 n0 m0) (.slice A1 n1 m1) (.slice A2 n2 m2))) rfl
  ⟨k,n,s,t,A0,n0,m0,A1,n1,m1,A2,n2,m2,rfl,(HR.out.keep (Same.of_grown (set7_grown _ _ _ _ _ _ _ _ _) (fun x hx=>by simp;have:=HZ.out;omega))).weaken (fun x hx=>by have:=HZ.out;omega),
   HP2.out.kept (set7_grown _ _ _ _ _ _ _ _ _) (by simp;omega) (by simp;omega),grown_7 HG2.out (by omega) _ _ _ _ _ _ _⟩
set_option maxRecDepth 100000 in
set_option maxHeartbeats 1000000 in
theorem nestedS_atom {F:Prop}(x b g go c:Nat)(ts:List Rt)(nx dp nx':Nat)(ex:Ex)(w:World)(h:PS w b g go c ts nx dp)(hx:BoxP w x b)(hd:dp+1≤400)
  (HC:Hid (∀ w',PS w' b g go c ts nx (dp+1)→BoxP w' x b→Calls Tryz.prog 141 #[.pointer (some ⟨x,0,none⟩)] w' (OF F w' b g go c ts (ExprTo w' b g go c ts nx' (dp+1) ex)))) :
  Calls Tryz.prog 54 #[.pointer (some ⟨b,0,none⟩),.func (.func 141) #[] #[.pointer (some ⟨x,0,none⟩)]] w (OF F w b g go c ts (ExprTo w b g go c ts nx' dp ex)):=by
 have c2:=h.c2
 have f2:=h.fr 2
 have hbl:=h.blt
 have hgl:=h.lt
 have hxl:=hx.lt
 have hxb:=hx.ne h
 have H:=Lib.hid h
 have HX:=Lib.hid hx
 have H1:Hid (PS (w.setCell ⟨b,2,none⟩ (.int .i64 ((dp:Int)+1))) b g go c ts nx (dp+1)):=by have:=h.set2 (dp+1);rw [Int.natCast_add] at this;exact this
 have HX1:Hid (BoxP (w.setCell ⟨b,2,none⟩ (.int .i64 ((dp:Int)+1))) x b):=hx.kept (grown_set w ⟨b,2,none⟩ _) (by simp;omega)
 have q1:¬ w.heap.size=b:=by omega
 have q2:¬ b=w.heap.size:=by omega
 have i0:(dp:Int)+1≤400:=by omega
 clear h hx
 go_enter Tryz.func54,Tryz.ntmps54
 go_wp2_with fail
 obtain ⟨W1,hW1⟩:∃ W1,(w.setCell ⟨b,2,none⟩ (.int .i64 ((dp:Int)+1))).alloc (.cells #[.int .i64 0,.int .i64 0,.string ⟨#[]⟩,.string ⟨#[]⟩,.slice none 0 0,.slice none 0 0,.slice none 0 0] 27)=W1:=⟨_,rfl⟩
 have HPW:Hid (PS W1 b g go c ts nx (dp+1)):=by rw [← hW1];exact H1.out.below ((Below.refl _ _).alloc (Nat.le_refl _) _)
 have HXW:Hid (BoxP W1 x b):=by rw [← hW1];exact HX1.out.kept (World.grownBy_alloc _ _ none) (by simp)
 have HEW:Hid (EB W1 w.heap.size (.int .i64 0) (.int .i64 0) (.string ⟨#[]⟩) (.string ⟨#[]⟩) (.slice none 0 0) (.slice none 0 0) (.slice none 0 0)):=by
  have:=EB.new (w.setCell ⟨b,2,none⟩ (.int .i64 ((dp:Int)+1))) (.int .i64 0) (.int .i64 0) (.string ⟨#[]⟩) (.string ⟨#[]⟩) (.slice none 0 0) (.slice none 0 0) (.slice none 0 0)
  rw [hW1,size_set] at this;exact this
 have HGW:Hid (w.grownBy W1 (some b)):=by rw [← hW1];exact grown_trans (grown_set _ ⟨b,2,none⟩ _) (World.grownBy_alloc _ _ _)
 have hzW:W1.heap.size=w.heap.size+1:=by rw [← hW1];simp [World.setCell]
 rw [hW1]
 refine (HC.out W1 HPW.out HXW.out).mono ?_
 rintro e w2 (⟨k,n,s,t,A0,n0,m0,A1,n1,m1,A2,n2,m2,rfl,hr,hw⟩ | ⟨hF,nxF,hnF,rfl,dpF,hpF,hgF⟩)
 rotate_left
 ·exact ⟨rfl,.inr ⟨hF,nxF,hnF,rfl,dpF,hpF,grown_trans HGW.out hgF⟩⟩
 have HR:=Lib.hid hr
 have HP2:=Lib.hid hw.1
 have HG2:=Lib.hid hw.2
 have HE2:=Lib.hid (HEW.out.kept hw.2 (by simp;omega))
 have c2':=hw.1.c2
 rw [Int.natCast_add] at c2'
 have f2':=hw.1.fr 2
 have e0:=HE2.out.c0
 have e1:=HE2.out.c1
 have e2:=HE2.out.c2
 have e3:=HE2.out.c3
 have e4:=HE2.out.c4
 have e5:=HE2.out.c5
 have e6:=HE2.out.c6
 have r0:=HE2.out.fr 0
 have r1:=HE2.out.fr 1
 have r2:=HE2.out.fr 2
 have r3:=HE2.out.fr 3
 have r4:=HE2.out.fr 4
 have r5:=HE2.out.fr 5
 have r6:=HE2.out.fr 6
 have hz1:w.heap.size < w2.heap.size:=by have:=hw.2.size;omega
 have hz2:b < w2.heap.size:=by omega
 have HZ:=Lib.hid hzW
 clear hr hw hW1 hzW c2 f2 HC
 go_wp2_with fail
 have HP3:Hid (PS (w2.setCell ⟨b,2,none⟩ (.int .i64 (dp:Int))) b g go c ts nx' dp):=HP2.out.set2 dp
 have HE3:Hid (EB (w2.setCell ⟨b,2,none⟩ (.int .i64 (dp:Int))) w.heap.size (.int .i64 0) (.int .i64 0) (.string ⟨#[]⟩) (.string ⟨#[]⟩) (.slice none 0 0) (.slice none 0 0) (.slice none 0 0)):=HE2.out.kept (grown_set _ ⟨b,2,none⟩ _) (by simp;omega)
 have HG3:Hid (w.grownBy (w2.setCell ⟨b,2,none⟩ (.int .i64 (dp:Int))) (some b)):=grown_trans (grown_trans HGW.out HG2.out) (grown_set _ ⟨b,2,none⟩ _)
 have HS:Hid (∀ V,Same (fun x=>W1.heap.size≤x) w2 ((set7 (w2.setCell ⟨b,2,none⟩ (.int .i64 (dp:Int))) w.heap.size (.int .i64 k) (.int .i64 n) (.string s) (.string t) (.slice A0 n0 m0) (.slice A1 n1 m1) (.slice A2 n2 m2)).alloc V)):=fun V =>
  ((Same.of_grown (grown_set w2 ⟨b,2,none⟩ _) (fun x hx=>by simp;have:=HZ.out;omega)).trans (Same.of_grown (set7_grown _ _ _ _ _ _ _ _ _) (fun x hx=>by simp;have:=HZ.out;omega))).trans (Same.of_grown (World.grownBy_alloc _ _ none) (fun x hx=>by simp))
 exact bodyPost_retF (resNested rfl ((HE3.out.all (.int .i64 k) (.int .i64 n) (.string s) (.string t) (.slice A0 n0 m0) (.slice A1 n1 m1) (.slice A2 n2 m2)).kept (World.grownBy_alloc _ _ none) (by simp))) rfl
  ⟨k,n,s,t,A0,n0,m0,A1,n1,m1,A2,n2,m2,rfl,(HR.out.keep (HS.out _)).weaken (fun x hx=>by have:=HZ.out;omega),
   (HP3.out.kept (set7_grown _ _ _ _ _ _ _ _ _) (by simp;omega) (by simp;omega)).below ((Below.refl _ _).alloc (Nat.le_refl _) _),grown_trans (grown_7 HG3.out (Nat.le_refl _) _ _ _ _ _ _ _) (World.grownBy_alloc _ _ _)⟩
set_option maxRecDepth 100000 in
set_option maxHeartbeats 1000000 in
theorem nestedO_atom (x b g go c:Nat)(ts:List Rt)(nx:Nat)(w:World)(h:PS w b g go c ts nx 400) :
  Calls Tryz.prog 54 #[.pointer (some ⟨b,0,none⟩),.func (.func 141) #[] #[.pointer (some ⟨x,0,none⟩)]] w (FailTo w b g go c ts nx):=by
 have c2:=h.c2
 have f2:=h.fr 2
 have hbl:=h.blt
 have hgl:=h.lt
 have H1:Hid (PS (w.setCell ⟨b,2,none⟩ (.int .i64 401)) b g go c ts nx 401):=Lib.hid (h.set2 401)
 have q1:¬ w.heap.size=b:=by omega
 have q2:¬ b=w.heap.size:=by omega
 clear h
 go_enter Tryz.func54,Tryz.ntmps54
 go_wp2_with fail
 refine (fail_any _ _).mono ?_
 rintro e w2 ⟨rfl,rfl⟩
 exact ⟨rfl,rfl,401,H1.out.below ((Below.refl _ _).alloc (Nat.le_refl _) _),grown_trans (grown_set w ⟨b,2,none⟩ _) (World.grownBy_alloc _ _ _)⟩
theorem nestedF_atom {F:Prop}(x b g go c:Nat)(ts:List Rt)(nx dp nx':Nat)(ex:Ex)(w:World)(h:PS w b g go c ts nx dp)(hx:BoxP w x b)(hd:dp≤400)(hF:dp+1≤400∨F)(hnx:nx < ts.length)
  (HC:Hid (dp+1≤400→∀ w',PS w' b g go c ts nx (dp+1)→BoxP w' x b→Calls Tryz.prog 141 #[.pointer (some ⟨x,0,none⟩)] w' (OF F w' b g go c ts (ExprTo w' b g go c ts nx' (dp+1) ex)))) :
  Calls Tryz.prog 54 #[.pointer (some ⟨b,0,none⟩),.func (.func 141) #[] #[.pointer (some ⟨x,0,none⟩)]] w (OF F w b g go c ts (ExprTo w b g go c ts nx' dp ex)):=by
 by_cases h4:dp+1≤400
 ·exact nestedS_atom x b g go c ts nx dp nx' ex w h hx h4 (Lib.hid (HC.out h4))
 ·obtain rfl:dp=400:=by omega
  exact (nestedO_atom x b g go c ts nx w h).mono fun e w' hf=>.inr ⟨hF.resolve_left h4,nx,hnx,hf⟩
set_option maxRecDepth 100000 in
set_option maxHeartbeats 1000000 in
theorem atomF_any {F:Prop}(b g go c:Nat)(ts:List Rt)(nx dp nx':Nat)(ex:Ex)(w:World)(h:PS w b g go c ts nx dp)(hd:dp≤400)(hF:dp+1≤400∨F)(hnx:nx < ts.length)
  (HC:Hid (dp+1≤400→∀ x w',PS w' b g go c ts nx (dp+1)→BoxP w' x b→Calls Tryz.prog 141 #[.pointer (some ⟨x,0,none⟩)] w' (OF F w' b g go c ts (ExprTo w' b g go c ts nx' (dp+1) ex)))) :
  Calls Tryz.prog 118 #[.pointer (some ⟨b,0,none⟩)] w (OF F w b g go c ts (ExprTo w b g go c ts nx' dp ex)):=by
 have hbl:=h.blt
 have hgl:=h.lt
 have H:=Lib.hid h
 clear h
 go_enter Tryz.func118,Tryz.ntmps118
 go_wp2_with fail
 obtain ⟨W1,hW1⟩:∃ W1,(w.alloc (.cells #[.pointer (some ⟨b,0,none⟩)] 54)).alloc (.cells #[.int .i64 0,.int .i64 0,.string ⟨#[]⟩,.string ⟨#[]⟩,.slice none 0 0,.slice none 0 0,.slice none 0 0] 27)=W1:=⟨_,rfl⟩
 have HPW:Hid (PS W1 b g go c ts nx dp):=by rw [← hW1];exact H.out.below (((Below.refl _ _).alloc (Nat.le_refl _) _).alloc (by simp) _)
 have HXW:Hid (BoxP W1 w.heap.size b):=by rw [← hW1];exact (show BoxP (w.alloc (.cells #[.pointer (some ⟨b,0,none⟩)] 54)) w.heap.size b from heap_alloc_new w _).kept (World.grownBy_alloc _ _ none) (by simp)
 have HEW:Hid (EB W1 (w.heap.size+1) (.int .i64 0) (.int .i64 0) (.string ⟨#[]⟩) (.string ⟨#[]⟩) (.slice none 0 0) (.slice none 0 0) (.slice none 0 0)):=by
  have:=EB.new (w.alloc (.cells #[.pointer (some ⟨b,0,none⟩)] 54)) (.int .i64 0) (.int .i64 0) (.string ⟨#[]⟩) (.string ⟨#[]⟩) (.slice none 0 0) (.slice none 0 0) (.slice none 0 0)
  rw [hW1,World.size_alloc] at this;exact this
 have HGW:Hid (w.grownBy W1 (some b)):=by rw [← hW1];exact grown_trans (World.grownBy_alloc _ _ _) (World.grownBy_alloc _ _ _)
 have hzW:W1.heap.size=w.heap.size+2:=by rw [← hW1];simp
 rw [hW1]
 refine (nestedF_atom w.heap.size b g go c ts nx dp nx' ex W1 HPW.out HXW.out hd hF hnx (Lib.hid fun h4=>HC.out h4 _)).mono ?_
 rintro e w2 (⟨k,n,s,t,A0,n0,m0,A1,n1,m1,A2,n2,m2,rfl,hr,hw⟩ | ⟨hF,nxF,hnF,rfl,dpF,hpF,hgF⟩)
 rotate_left
 ·exact ⟨rfl,.inr ⟨hF,nxF,hnF,rfl,dpF,hpF,grown_trans HGW.out hgF⟩⟩
 have HR:=Lib.hid hr
 have HP2:=Lib.hid hw.1
 have HG2:=Lib.hid (grown_trans HGW.out hw.2)
 have HE2:=Lib.hid (HEW.out.kept hw.2 (by simp;omega))
 have e0:=HE2.out.c0
 have e1:=HE2.out.c1
 have e2:=HE2.out.c2
 have e3:=HE2.out.c3
 have e4:=HE2.out.c4
 have e5:=HE2.out.c5
 have e6:=HE2.out.c6
 have r0:=HE2.out.fr 0
 have r1:=HE2.out.fr 1
 have r2:=HE2.out.fr 2
 have r3:=HE2.out.fr 3
 have r4:=HE2.out.fr 4
 have r5:=HE2.out.fr 5
 have r6:=HE2.out.fr 6
 have HZ:=Lib.hid hzW
 clear hr hw hW1 hzW HC
 go_wp2_with fail
 exact bodyPost_retF (res_atom_any rfl (HE2.out.all (.int .i64 k) (.int .i64 n) (.string s) (.string t) (.slice A0 n0 m0) (.slice A1 n1 m1) (.slice A2 n2 m2))) rfl
  ⟨k,n,s,t,A0,n0,m0,A1,n1,m1,A2,n2,m2,rfl,(HR.out.keep (Same.of_grown (set7_grown _ _ _ _ _ _ _ _ _) (fun x hx=>by simp;have:=HZ.out;omega))).weaken (fun x hx=>by have:=HZ.out;omega),
   HP2.out.kept (set7_grown _ _ _ _ _ _ _ _ _) (by simp;omega) (by simp;omega),grown_7 HG2.out (by omega) _ _ _ _ _ _ _⟩
def ChainF (F:Prop)(b g go c:Nat)(ts:List Rt)(dp:Nat)(l:Int)(Chain:Ex→Nat→Prop)(E:Ex)(K:Nat)(ex:Ex)(nx:Nat):Prop :=
 ∃ t,ts[nx]?=some t∧((isOp t l=false∧ex=E∧nx=K) ∨
  (isOp t l=true∧t.k=4∧∃ e2 nx2,nx < nx2∧nx2≤ts.length∧(∀ w',PS w' b g go c ts (nx+1) dp→Calls Tryz.prog 60 #[.pointer (some ⟨b,0,none⟩),.int .i64 (l+1)] w' (OF F w' b g go c ts (ExprTo w' b g go c ts nx2 dp e2))) ∧
   ((l=1∧primE t.s ex e2=E∧nx2=K)∨(l≠1∧Chain (primE t.s ex e2) nx2))))
set_option maxRecDepth 100000 in
set_option maxHeartbeats 4000000 in
theorem opF_call {F:Prop}(b g go c:Nat)(ts:List Rt)(nx dp nx':Nat)(ex:Ex)(w:World)(h:PS w b g go c ts nx dp)
  (HC:Hid (∀ w',PS w' b g go c ts nx dp→Calls Tryz.prog 90 #[.pointer (some ⟨b,0,none⟩)] w' (OF F w' b g go c ts (ExprTo w' b g go c ts nx' dp ex)))) :
  Calls Tryz.prog 60 #[.pointer (some ⟨b,0,none⟩),.int .i64 4] w (OF F w b g go c ts (ExprTo w b g go c ts nx' dp ex)):=by
 have hbl:=h.blt
 have hgl:=h.lt
 have H0:Hid (PS (w.alloc (.cells #[.int .i64 0,.int .i64 0,.string ⟨#[]⟩,.string ⟨#[]⟩,.slice none 0 0,.slice none 0 0,.slice none 0 0] 27)) b g go c ts nx dp):=h.below ((Below.refl _ _).alloc (Nat.le_refl _) _)
 have HE0:=Lib.hid (EB.new w (.int .i64 0) (.int .i64 0) (.string ⟨#[]⟩) (.string ⟨#[]⟩) (.slice none 0 0) (.slice none 0 0) (.slice none 0 0))
 have HG0:Hid (w.grownBy _ (some b)):=World.grownBy_alloc w (.cells #[.int .i64 0,.int .i64 0,.string ⟨#[]⟩,.string ⟨#[]⟩,.slice none 0 0,.slice none 0 0,.slice none 0 0] 27) (some b)
 clear h
 go_enter Tryz.func60,Tryz.ntmps60
 go_wp2_with fail
 refine (HC.out _ H0.out).mono ?_
 rintro e w2 (⟨k,n,s,t,A0,n0,m0,A1,n1,m1,A2,n2,m2,rfl,hr,hw⟩ | ⟨hF,nxF,hnF,rfl,dpF,hpF,hgF⟩)
 rotate_left
 ·exact ⟨rfl,.inr ⟨hF,nxF,hnF,rfl,dpF,hpF,grown_trans HG0.out hgF⟩⟩
 have HR:=Lib.hid hr
 have HP2:=Lib.hid hw.1
 have HG2:=Lib.hid (grown_trans HG0.out hw.2)
 have HE4:=Lib.hid (HE0.out.kept hw.2 (by simp;omega))
 have e0:=HE4.out.c0
 have e1:=HE4.out.c1
 have e2:=HE4.out.c2
 have e3:=HE4.out.c3
 have e4:=HE4.out.c4
 have e5:=HE4.out.c5
 have e6:=HE4.out.c6
 have r0:=HE4.out.fr 0
 have r1:=HE4.out.fr 1
 have r2:=HE4.out.fr 2
 have r3:=HE4.out.fr 3
 have r4:=HE4.out.fr 4
 have r5:=HE4.out.fr 5
 have r6:=HE4.out.fr 6
 clear hr hw HC
 go_wp2_with fail
 exact bodyPost_retF (res_op rfl (HE4.out.all (.int .i64 k) (.int .i64 n) (.string s) (.string t) (.slice A0 n0 m0) (.slice A1 n1 m1) (.slice A2 n2 m2))) rfl
  ⟨k,n,s,t,A0,n0,m0,A1,n1,m1,A2,n2,m2,rfl,(HR.out.keep (Same.of_grown (set7_grown _ _ _ _ _ _ _ _ _) (fun x hx=>by simp at hx ⊢;omega))).weaken (fun x hx=>by simp at hx;omega),
   HP2.out.kept (set7_grown _ _ _ _ _ _ _ _ _) (by simp;omega) (by simp;omega),grown_7 HG2.out (Nat.le_refl _) _ _ _ _ _ _ _⟩
set_option maxRecDepth 100000 in
set_option maxHeartbeats 4000000 in
theorem opF_any {F:Prop}(b g go c:Nat)(ts:List Rt)(nx dp:Nat)(l:Int)(hl:1≤l∧l≤3)(hok:TokOk ts)(Chain:Ex→Nat→Prop)(E:Ex)(K:Nat)(ex0:Ex)(nx0:Nat)(w:World)(h:PS w b g go c ts nx dp)
  (HC:Hid (∀ w',PS w' b g go c ts nx dp→Calls Tryz.prog 60 #[.pointer (some ⟨b,0,none⟩),.int .i64 (l+1)] w' (OF F w' b g go c ts (ExprTo w' b g go c ts nx0 dp ex0))))
  (H0C:Chain ex0 nx0) (HStep:Hid (∀ ex nx,Chain ex nx→ChainF F b g go c ts dp l Chain E K ex nx)) :
  Calls Tryz.prog 60 #[.pointer (some ⟨b,0,none⟩),.int .i64 l] w (OF F w b g go c ts (ExprTo w b g go c ts K dp E)):=by
 have hbl:=h.blt
 have hgl:=h.lt
 have H0:Hid (PS (w.alloc (.cells #[.int .i64 0,.int .i64 0,.string ⟨#[]⟩,.string ⟨#[]⟩,.slice none 0 0,.slice none 0 0,.slice none 0 0] 27)) b g go c ts nx dp):=h.below ((Below.refl _ _).alloc (Nat.le_refl _) _)
 have HE0:=Lib.hid (EB.new w (.int .i64 0) (.int .i64 0) (.string ⟨#[]⟩) (.string ⟨#[]⟩) (.slice none 0 0) (.slice none 0 0) (.slice none 0 0))
 have HG0:Hid (w.grownBy _ (some b)):=World.grownBy_alloc w (.cells #[.int .i64 0,.int .i64 0,.string ⟨#[]⟩,.string ⟨#[]⟩,.slice none 0 0,.slice none 0 0,.slice none 0 0] 27) (some b)
 have HCh:=Lib.hid H0C
 obtain ⟨l1,l2⟩:=hl
 clear h H0C
 go_enter Tryz.func60,Tryz.ntmps60
 go_wp2_with fail
 refine (HC.out _ H0.out).mono ?_
 rintro e w2 (⟨k,n,s,t,A0,n0,m0,A1,n1,m1,A2,n2,m2,rfl,hr,hw⟩ | ⟨hF,nxF,hnF,rfl,dpF,hpF,hgF⟩)
 rotate_left
 ·exact ⟨rfl,.inr ⟨hF,nxF,hnF,rfl,dpF,hpF,grown_trans HG0.out hgF⟩⟩
 have HR:=Lib.hid hr
 have HP2:=Lib.hid hw.1
 have HG2:=Lib.hid (grown_trans HG0.out hw.2)
 have HE2:=Lib.hid (HE0.out.kept hw.2 (by simp;omega))
 clear hr hw HC
 go_wp2_with fail
 obtain ⟨W3,hW3⟩:∃ W3,w2.alloc (.cells #[.int .i64 k,.int .i64 n,.string s,.string t,.slice A0 n0 m0,.slice A1 n1 m1,.slice A2 n2 m2] 27)=W3:=⟨_,rfl⟩
 have HP3:Hid (PS W3 b g go c ts nx0 dp):=by rw [← hW3];exact HP2.out.below ((Below.refl _ _).alloc (Nat.le_refl _) _)
 have HE3:Hid (EB W3 w.heap.size (.int .i64 0) (.int .i64 0) (.string ⟨#[]⟩) (.string ⟨#[]⟩) (.slice none 0 0) (.slice none 0 0) (.slice none 0 0)):=by rw [← hW3];exact HE2.out.kept (World.grownBy_alloc _ _ none) (by simp)
 have HT3:Hid (EB W3 w2.heap.size (.int .i64 k) (.int .i64 n) (.string s) (.string t) (.slice A0 n0 m0) (.slice A1 n1 m1) (.slice A2 n2 m2)):=by rw [← hW3];exact EB.new w2 _ _ _ _ _ _ _
 have HG3:Hid (w.grownBy W3 (some b)):=by rw [← hW3];exact grown_trans HG2.out (World.grownBy_alloc _ _ _)
 have hz2:w.heap.size < w2.heap.size:=HE2.out.lt
 have HR3:Hid (RepE (fun x=>w.heap.size < x∧x≠w2.heap.size) W3 ex0 [.int .i64 k,.int .i64 n,.string s,.string t,.slice A0 n0 m0,.slice A1 n1 m1,.slice A2 n2 m2]):=by
  rw [← hW3]
  exact (HR.out.tight.keep (Same.of_grown (World.grownBy_alloc _ _ none) (fun _ _=>by simp))).weaken (fun x hx=>by have h1:=hx.1;have h2:=hx.2;simp at h1;omega)
 rw [hW3]
 clear hW3
 obtain ⟨T,hT⟩:∃ T,T=w2.heap.size:=⟨_,rfl⟩
 have HRel:Hid (OpRel w w.heap.size T b g go c ts dp Chain W3):=by
  rw [hT];exact ⟨ex0,nx0,k,n,s,t,A0,n0,m0,A1,n1,m1,A2,n2,m2,HCh.out,HP3.out,HE3.out,HT3.out,HR3.out,HG3.out⟩
 have hwT:w.heap.size < T:=by omega
 rw [← hT]
 clear HP3 HE3 HT3 HG3 HR3 HR HP2 HG2 HE2 HCh hT hz2
 clear HE0 HG0 H0
 go_loopw [] (fun wr=>Hid (OpRel w w.heap.size T b g go c ts dp Chain wr)) (fun wr=>ts.length - nxOf b wr)
 case atStart=>exact HRel
 case round =>
  clear HRel
  obtain ⟨ex,nx,k,n,s,t,A0,n0,m0,A1,n1,m1,A2,n2,m2,hch,hps,he,ht,hr,hg⟩:=hrel.out
  obtain ⟨tk,htk,hcase⟩:=HStep.out ex nx hch
  have hgr:=hps.lt
  have hzr:T < wr.heap.size:=ht.lt
  have HPr:=Lib.hid hps
  have HEr:=Lib.hid he
  have HTr:=Lib.hid ht
  have HRr:=Lib.hid hr
  have HGr:=Lib.hid hg
  clear hps he ht hr hg hch hrel
  rcases hcase with ⟨hf,hee,hkk⟩ | ⟨hy,hk4,e2,nx2,hlt,hle,hC2,hend⟩
  ·have HI:=Lib.hid (fun w h=>isOperator_any b g go c ts nx dp tk l w h htk false hf)
   subst hee
   subst hkk
   clear htk hf
   go_wp2_with fail
   refine (HI.out _ HPr.out).mono ?_
   rintro e w4 ⟨rfl,hb⟩
   have HP4:=Lib.hid (HPr.out.below hb)
   have HE4:=Lib.hid (HEr.out.kept (grown_below hb none) (by simp))
   have HT4:=Lib.hid (HTr.out.kept (grown_below hb none) (by simp))
   have HG4:=Lib.hid (grown_trans HGr.out (grown_below hb _))
   have HR4:=Lib.hid (HRr.out.keep (Same.of_below hb))
   have e0:=HE4.out.c0
   have e1:=HE4.out.c1
   have e2:=HE4.out.c2
   have e3:=HE4.out.c3
   have e4:=HE4.out.c4
   have e5:=HE4.out.c5
   have e6:=HE4.out.c6
   have r0:=HE4.out.fr 0
   have r1:=HE4.out.fr 1
   have r2:=HE4.out.fr 2
   have r3:=HE4.out.fr 3
   have r4:=HE4.out.fr 4
   have r5:=HE4.out.fr 5
   have r6:=HE4.out.fr 6
   have d0:=HT4.out.c0
   have d1:=HT4.out.c1
   have d2:=HT4.out.c2
   have d3:=HT4.out.c3
   have d4:=HT4.out.c4
   have d5:=HT4.out.c5
   have d6:=HT4.out.c6
   clear hb
   go_wp2_with fail
   exact bodyPost_retF (res_op rfl (HE4.out.all (.int .i64 k) (.int .i64 n) (.string s) (.string t) (.slice A0 n0 m0) (.slice A1 n1 m1) (.slice A2 n2 m2))) rfl
    ⟨k,n,s,t,A0,n0,m0,A1,n1,m1,A2,n2,m2,rfl,(HR4.out.keep (Same.of_grown (set7_grown _ _ _ _ _ _ _ _ _) (fun x hx=>by have h1:=hx.1;simp;omega))).weaken (fun x hx=>by have h1:=hx.1;omega),
     HP4.out.kept (set7_grown _ _ _ _ _ _ _ _ _) (by simp;omega) (by simp;omega),grown_7 HG4.out (Nat.le_refl _) _ _ _ _ _ _ _⟩
  ·have HI:=Lib.hid (fun w h=>isOperator_any b g go c ts nx dp tk l w h htk true hy)
   have hlen:=hok.1
   have hoks:=(hok.2 nx tk htk).1
   have HTk:=Lib.hid (fun w h=>token_ok b g go c ts nx dp tk w h htk hlen)
   rw [hk4] at HTk
   have HC2:=Lib.hid hC2
   have HEnd:=Lib.hid hend
   obtain ⟨S,hS⟩:∃ S,S=strB tk.s:=⟨_,rfl⟩
   rw [← hS] at HTk
   have hw1:IntKind.i64.wrap (l+1)=l+1:=IntWalk.i64_in _ (by omega)
   clear hC2 hend htk hy hlen
   go_wp2_with fail
   refine (HI.out _ HPr.out).mono ?_
   rintro e w4 ⟨rfl,hb⟩
   have HP4:=Lib.hid (HPr.out.below hb)
   have HE4:=Lib.hid (HEr.out.kept (grown_below hb none) (by simp))
   have HT4:=Lib.hid (HTr.out.kept (grown_below hb none) (by simp))
   have HG4:=Lib.hid (grown_trans HGr.out (grown_below hb _))
   have HR4:=Lib.hid (HRr.out.keep (Same.of_below hb))
   clear hb
   have fl1:=tfield1
   go_wp2_with fail
   refine (HTk.out _ HP4.out).mono ?_
   rintro e w5 ⟨rfl,hb⟩
   have HP5:=Lib.hid hb.1
   have HE5:=Lib.hid (HE4.out.kept hb.2 (by simp;omega))
   have HT5:=Lib.hid (HT4.out.kept hb.2 (by simp;omega))
   have HG5:=Lib.hid (grown_trans HG4.out hb.2)
   have HR5:=Lib.hid (HR4.out.tight.keep (Same.of_grown hb.2 (fun x hx=>by have h1:=hx.1.1;simp;omega)))
   clear hb
   go_wp2_with fail
   refine (HC2.out _ HP5.out).mono ?_
   rintro e w6 (⟨kk,nn,ss,tt,B0,n3,m3,B1,n4,m4,B2,n5,m5,rfl,hr,hw⟩ | ⟨hF,nxF,hnF,rfl,dpF,hpF,hgF⟩)
   rotate_left
   ·exact ⟨rfl,.inr ⟨hF,nxF,hnF,rfl,dpF,hpF,grown_trans HG5.out hgF⟩⟩
   have hz5:=HT5.out.lt
   have HRa:=Lib.hid (HR5.out.tight.keep (Same.of_grown hw.2 (fun x hx=>by have h1:=hx.1.1.1;simp;omega)))
   have HRb:=Lib.hid hr.tight
   have HP6:=Lib.hid hw.1
   have HE6:=Lib.hid (HE5.out.kept hw.2 (by simp;omega))
   have HT6:=Lib.hid (HT5.out.kept hw.2 (by simp;omega))
   have HG6:=Lib.hid (grown_trans HG5.out hw.2)
   have hz6:=HT6.out.lt
   have d0:=HT6.out.c0
   have d1:=HT6.out.c1
   have d2:=HT6.out.c2
   have d3:=HT6.out.c3
   have d4:=HT6.out.c4
   have d5:=HT6.out.c5
   have d6:=HT6.out.c6
   have r0:=HT6.out.fr 0
   have r1:=HT6.out.fr 1
   have r2:=HT6.out.fr 2
   have r3:=HT6.out.fr 3
   have r4:=HT6.out.fr 4
   have r5:=HT6.out.fr 5
   have r6:=HT6.out.fr 6
   clear hr hw
   go_wp2_with fail
   obtain ⟨W7,hW7⟩:∃ W7,((set7 w6 T (.int .i64 9) (.int .i64 0) (.string (strB tk.s)) (.string ⟨#[]⟩) (.slice none 0 0) (.slice (some ⟨w6.heap.size+1,0,none⟩) 2 2) (.slice none 0 0)).alloc (.cells #[.int .i64 kk,.int .i64 nn,.string ss,.string tt,.slice B0 n3 m3,.slice B1 n4 m4,.slice B2 n5 m5] 27)).alloc (.cells #[.int .i64 k,.int .i64 n,.string s,.string t,.slice A0 n0 m0,.slice A1 n1 m1,.slice A2 n2 m2,.int .i64 kk,.int .i64 nn,.string ss,.string tt,.slice B0 n3 m3,.slice B1 n4 m4,.slice B2 n5 m5] 27)=W7:=⟨_,rfl⟩
   have hS7:w6.grownBy W7 (some T):=by rw [← hW7];exact grown_trans (grown_trans (set7_grown _ _ _ _ _ _ _ _ _) (World.grownBy_alloc _ _ _)) (World.grownBy_alloc _ _ _)
   have hz7:W7.heap.size=w6.heap.size+2:=by rw [← hW7];simp [set7,World.setCell]
   have hc7:CellsAt W7 (w6.heap.size+1) 0 ([.int .i64 k,.int .i64 n,.string s,.string t,.slice A0 n0 m0,.slice A1 n1 m1,.slice A2 n2 m2]++[.int .i64 kk,.int .i64 nn,.string ss,.string tt,.slice B0 n3 m3,.slice B1 n4 m4,.slice B2 n5 m5]):=by
    rw [← hW7]
    have:=cellsAt_new ((set7 w6 T (.int .i64 9) (.int .i64 0) (.string (strB tk.s)) (.string ⟨#[]⟩) (.slice none 0 0) (.slice (some ⟨w6.heap.size+1,0,none⟩) 2 2) (.slice none 0 0)).alloc (.cells #[.int .i64 kk,.int .i64 nn,.string ss,.string tt,.slice B0 n3 m3,.slice B1 n4 m4,.slice B2 n5 m5] 27)) [.int .i64 k,.int .i64 n,.string s,.string t,.slice A0 n0 m0,.slice A1 n1 m1,.slice A2 n2 m2,.int .i64 kk,.int .i64 nn,.string ss,.string tt,.slice B0 n3 m3,.slice B1 n4 m4,.slice B2 n5 m5] 27
    have hz:((set7 w6 T (.int .i64 9) (.int .i64 0) (.string (strB tk.s)) (.string ⟨#[]⟩) (.slice none 0 0) (.slice (some ⟨w6.heap.size+1,0,none⟩) 2 2) (.slice none 0 0)).alloc (.cells #[.int .i64 kk,.int .i64 nn,.string ss,.string tt,.slice B0 n3 m3,.slice B1 n4 m4,.slice B2 n5 m5] 27)).heap.size=w6.heap.size+1:=by simp [set7,World.setCell]
    rw [hz] at this
    exact this
   have HT7:Hid (EB W7 T (.int .i64 9) (.int .i64 0) (.string (strB tk.s)) (.string ⟨#[]⟩) (.slice none 0 0) (.slice (some ⟨w6.heap.size+1,0,none⟩) 2 2) (.slice none 0 0)):=by
    rw [← hW7]
    exact ((HT6.out.all (.int .i64 9) (.int .i64 0) (.string (strB tk.s)) (.string ⟨#[]⟩) (.slice none 0 0) (.slice (some ⟨w6.heap.size+1,0,none⟩) 2 2) (.slice none 0 0)).kept (World.grownBy_alloc _ _ none) (by simp)).kept (World.grownBy_alloc _ _ none) (by simp)
   have HP7:=Lib.hid (HP6.out.kept hS7 (by simp;omega) (by simp;omega))
   have HE7:=Lib.hid (HE6.out.kept hS7 (by simp;omega))
   have HG7:Hid (w.grownBy W7 (some b)):=by
    rw [← hW7]
    exact grown_trans (grown_trans (grown_7 HG6.out (by omega) _ _ _ _ _ _ _) (World.grownBy_alloc _ _ _)) (World.grownBy_alloc _ _ _)
   have HR7:Hid (RepE (fun x=>w.heap.size < x∧x≠T) W7 (primE tk.s ex e2) [.int .i64 9,.int .i64 0,.string (strB tk.s),.string ⟨#[]⟩,.slice none 0 0,.slice (some ⟨w6.heap.size+1,0,none⟩) 2 2,.slice none 0 0]):=by
    refine rep_prim hoks ⟨by omega,by omega⟩ (by omega) rfl rfl hc7 ?_ ?_
    ·exact (HRa.out.keep (Same.of_grown hS7 (fun x hx=>by have h1:=hx.1.1.2;simpa using h1))).weaken (fun x hx=>hx.1.1)
    ·exact (HRb.out.keep (Same.of_grown hS7 (fun x hx=>by have h1:=hx.1;have h2:=hz5;simp;omega))).weaken (fun x hx=>by have h1:=hx.1;have h2:=hz5;omega)
   unfold set7 at hW7
   rw [hW7]
   clear hW7 hS7 hz7 hc7 HT6 HP6 HE6 HG6 HRa HRb d0 d1 d2 d3 d4 d5 d6 r0 r1 r2 r3 r4 r5 r6
   have HO:=Lib.hid (fun w=>operandLevel_any l w)
   rcases HEnd.out with ⟨hl1,hpe,hkk⟩ | ⟨hl1,hch⟩
   ·subst hl1
    refine (HO.out _).mono ?_
    rintro e w' ⟨rfl,rfl⟩
    have e0:=HE7.out.c0
    have r0:=HE7.out.fr 0
    have d0:=HT7.out.c0
    have e1:=HE7.out.c1
    have r1:=HE7.out.fr 1
    have d1:=HT7.out.c1
    have e2:=HE7.out.c2
    have r2:=HE7.out.fr 2
    have d2:=HT7.out.c2
    have e3:=HE7.out.c3
    have r3:=HE7.out.fr 3
    have d3:=HT7.out.c3
    have e4:=HE7.out.c4
    have r4:=HE7.out.fr 4
    have d4:=HT7.out.c4
    have e5:=HE7.out.c5
    have r5:=HE7.out.fr 5
    have d5:=HT7.out.c5
    have e6:=HE7.out.c6
    have r6:=HE7.out.fr 6
    have d6:=HT7.out.c6
    go_wp2_with fail
    exact bodyPost_retF (res_op rfl (HE7.out.all (.int .i64 9) (.int .i64 0) (.string (strB tk.s)) (.string ⟨#[]⟩) (.slice none 0 0) (.slice (some ⟨w6.heap.size+1,0,none⟩) 2 2) (.slice none 0 0))) rfl
     ⟨9,0,strB tk.s,⟨#[]⟩,none,0,0,some ⟨w6.heap.size+1,0,none⟩,2,2,none,0,0,rfl,by rw [← hpe];exact (HR7.out.keep (Same.of_grown (set7_grown _ _ _ _ _ _ _ _ _) (fun x hx=>by have h1:=hx.1;simp;omega))).weaken (fun x hx=>by have h1:=hx.1;omega),
      by rw [← hkk];exact HP7.out.kept (set7_grown _ _ _ _ _ _ _ _ _) (by simp;omega) (by simp;omega),grown_7 HG7.out (Nat.le_refl _) _ _ _ _ _ _ _⟩
   ·refine (HO.out _).mono ?_
    rintro e w' ⟨rfl,rfl⟩
    rw [if_neg hl1]
    have hne:(l != l)=false:=by simp
    go_wp2_with fail
    refine ⟨⟨primE tk.s ex e2,nx2,9,0,strB tk.s,⟨#[]⟩,none,0,0,some ⟨w6.heap.size+1,0,none⟩,2,2,none,0,0,hch,HP7.out,HE7.out,HT7.out,HR7.out,HG7.out⟩,?_⟩
    rw [nxOf_ps HP7.out,nxOf_ps HPr.out]
    omega
set_option maxRecDepth 100000 in
set_option maxHeartbeats 4000000 in
theorem expr1F_op {F:Prop}(x b g go c:Nat)(ts:List Rt)(nx dp nx':Nat)(ex:Ex)(t:Rt)(w:World)(h:PS w b g go c ts nx dp)(hx:BoxP w x b)(ht:ts[nx]?=some t)(hn:NoWord t)
  (HC:Hid (∀ w',PS w' b g go c ts nx dp→Calls Tryz.prog 60 #[.pointer (some ⟨b,0,none⟩),.int .i64 1] w' (OF F w' b g go c ts (ExprTo w' b g go c ts nx' dp ex)))) :
  Calls Tryz.prog 55 #[.pointer (some ⟨x,0,none⟩)] w (OF F w b g go c ts (ExprTo w b g go c ts nx' dp ex)):=by
 have hbl:=h.blt
 have hgl:=h.lt
 have hxl:=hx.lt
 have HP:=Lib.hid (fun w h=>peek_any b g go c ts nx dp t w h ht)
 have H0:Hid (PS (w.alloc (.cells #[.int .i64 0,.int .i64 0,.string ⟨#[]⟩,.string ⟨#[]⟩,.slice none 0 0,.slice none 0 0,.slice none 0 0] 27)) b g go c ts nx dp):=h.below ((Below.refl _ _).alloc (Nat.le_refl _) _)
 have HX0:Hid (BoxP (w.alloc (.cells #[.int .i64 0,.int .i64 0,.string ⟨#[]⟩,.string ⟨#[]⟩,.slice none 0 0,.slice none 0 0,.slice none 0 0] 27)) x b):=hx.kept (World.grownBy_alloc w _ none) (by simp)
 have HE0:=Lib.hid (EB.new w (.int .i64 0) (.int .i64 0) (.string ⟨#[]⟩) (.string ⟨#[]⟩) (.slice none 0 0) (.slice none 0 0) (.slice none 0 0))
 have HG0:Hid (w.grownBy _ (some b)):=World.grownBy_alloc w (.cells #[.int .i64 0,.int .i64 0,.string ⟨#[]⟩,.string ⟨#[]⟩,.slice none 0 0,.slice none 0 0,.slice none 0 0] 27) (some b)
 have hxb:=hx.ne h
 have x0:=hx.c
 obtain ⟨S,hS⟩:∃ S,S=strB t.s:=⟨_,rfl⟩
 obtain ⟨s1,s2,s3,s4,s5⟩:=hn
 have q1:=ne_list hS s1
 have q2:=ne_list hS s2
 have q3:=ne_list hS s3
 have q4:=ne_list hS s4
 have q5:=ne_list hS s5
 have fl1:=tfield1
 obtain ⟨tk,tss,tn,tp⟩:=t
 simp only at HP hS
 rw [← hS] at HP
 clear h hx ht hS s1 s2 s3 s4 s5
 go_enter Tryz.func55,Tryz.ntmps55
 go_wp2_with fail
 refine (HP.out _ H0.out).mono ?_
 rintro e w1 ⟨rfl,hb⟩
 have HP1:=Lib.hid (H0.out.below hb)
 have HX1:=Lib.hid (HX0.out.kept (grown_below hb none) (by simp))
 have HE1:=Lib.hid (HE0.out.kept (grown_below hb none) (by simp))
 have HG1:=Lib.hid (grown_trans HG0.out (grown_below hb _))
 have x1:=HX1.out.c
 clear hb x0
 go_wp2_with fail
 refine (HC.out _ HP1.out).mono ?_
 rintro e w2 (⟨k,n,s,t,A0,n0,m0,A1,n1,m1,A2,n2,m2,rfl,hr,hw⟩ | ⟨hF,nxF,hnF,rfl,dpF,hpF,hgF⟩)
 rotate_left
 ·exact ⟨rfl,.inr ⟨hF,nxF,hnF,rfl,dpF,hpF,grown_trans HG1.out hgF⟩⟩
 have hz1:=HE1.out.lt
 have HR:=Lib.hid hr
 have HP2:=Lib.hid hw.1
 have HG2:=Lib.hid (grown_trans HG1.out hw.2)
 have HE4:=Lib.hid (HE1.out.kept hw.2 (by simp;omega))
 have e0:=HE4.out.c0
 have r0:=HE4.out.fr 0
 have e1:=HE4.out.c1
 have r1:=HE4.out.fr 1
 have e2:=HE4.out.c2
 have r2:=HE4.out.fr 2
 have e3:=HE4.out.c3
 have r3:=HE4.out.fr 3
 have e4:=HE4.out.c4
 have r4:=HE4.out.fr 4
 have e5:=HE4.out.c5
 have r5:=HE4.out.fr 5
 have e6:=HE4.out.c6
 have r6:=HE4.out.fr 6
 clear hr hw HC x1
 go_wp2_with fail
 exact bodyPost_retF (res_expr1 rfl (HE4.out.all (.int .i64 k) (.int .i64 n) (.string s) (.string t) (.slice A0 n0 m0) (.slice A1 n1 m1) (.slice A2 n2 m2))) rfl
  ⟨k,n,s,t,A0,n0,m0,A1,n1,m1,A2,n2,m2,rfl,(HR.out.keep (Same.of_grown (set7_grown _ _ _ _ _ _ _ _ _) (fun x hx=>by simp at hx ⊢;omega))).weaken (fun x hx=>by omega),
   HP2.out.kept (set7_grown _ _ _ _ _ _ _ _ _) (by simp;omega) (by simp;omega),grown_7 HG2.out (Nat.le_refl _) _ _ _ _ _ _ _⟩
set_option maxRecDepth 100000 in
set_option maxHeartbeats 4000000 in
theorem headF_var {F:Prop}(b g go c:Nat)(ts:List Rt)(nx dp:Nat)(t:Rt)(w:World)(h:PS w b g go c ts nx dp)(ht:ts[nx]?=some t)(hk:t.k=0)(hn:NoHead t)(t2:Rt)(ht2:ts[nx+1]?=some t2)(hd:t2.s≠[46])(hlen:ts.length≤100000)
  (HA:Hid (∀ w',PS w' b g go c ts nx dp→Calls Tryz.prog 118 #[.pointer (some ⟨b,0,none⟩)] w' (OF F w' b g go c ts (ExprTo w' b g go c ts (nx+1) dp (leafOf t))))) :
  Calls Tryz.prog 116 #[.pointer (some ⟨b,0,none⟩)] w (OF F w b g go c ts (ExprTo w b g go c ts (nx+1) dp (leafOf t))):=by
 have hbl:=h.blt
 have hgl:=h.lt
 have HP:=Lib.hid (fun w h=>peek_any b g go c ts nx dp t w h ht)
 have HS:Hid (∀ (s:ByteArray) w,PS w b g go c ts nx dp→t.s≠s.data.toList→Calls Tryz.prog 114 #[.pointer (some ⟨b,0,none⟩),.string s] w fun e w'=>e=.returned (.bool false)∧Below w.heap.size w w'):=fun s w h h2=>skip_no b g go c ts nx dp t s w h ht h2
 have HN:=Lib.hid hn
 obtain ⟨T,hT⟩:∃ T,T=strB t2.s:=⟨_,rfl⟩
 have hT2:(T.toList == [46])=false:=by rw [hT,ByteArray.toList_eq,data_strB];simpa using hd
 have HD:Hid (∀ w,PS w b g go c ts nx dp→w.cell? ⟨g,go+(nx+1)*4+1,none⟩=some (.string T)):=fun w h=>by rw [hT];exact h.tok _ _ ht2 1 _ rfl
 have hlt2:=(List.getElem?_eq_some_iff.1 ht2).1
 have i0:(0:Int)≤(nx:Int)+1:=by omega
 have i1:(nx:Int)+1 < (ts.length:Int):=by omega
 have i2:((nx:Int)+1).toNat=nx+1:=by omega
 have i3:(nx:Int)+1≤100000:=by omega
 clear hT hd ht2 hlt2
 have H:=Lib.hid h
 have fl0:=tfield0
 obtain ⟨lf,hlf⟩:∃ lf,lf=leafOf t:=⟨_,rfl⟩
 rw [← hlf] at HA ⊢
 obtain ⟨tk,tss,tn,tp⟩:=t
 simp only at hk HP HS HN
 subst hk
 obtain ⟨S,hS⟩:∃ S,S=strB tss:=⟨_,rfl⟩
 rw [← hS] at HP
 clear h ht hn hlf hS
 go_enter Tryz.func116,Tryz.ntmps116
 go_wp2_with fail
 have H1:Hid (PS (w.alloc (.cells #[.int .i64 0,.int .i64 0,.string ⟨#[]⟩,.string ⟨#[]⟩,.slice none 0 0,.slice none 0 0,.slice none 0 0] 27)) b g go c ts nx dp):=H.out.below ((Below.refl _ _).alloc (Nat.le_refl _) _)
 have HE1:=Lib.hid (EB.new w (.int .i64 0) (.int .i64 0) (.string ⟨#[]⟩) (.string ⟨#[]⟩) (.slice none 0 0) (.slice none 0 0) (.slice none 0 0))
 have HG1:Hid (w.grownBy _ none):=World.grownBy_alloc w (.cells #[.int .i64 0,.int .i64 0,.string ⟨#[]⟩,.string ⟨#[]⟩,.slice none 0 0,.slice none 0 0,.slice none 0 0] 27) none
 refine (HS.out _ _ H1.out HN.out.1).mono ?_;rintro e w2 ⟨rfl,hb⟩
 have H2:=Lib.hid (H1.out.below hb)
 have HE2:=Lib.hid (HE1.out.kept (grown_below hb none) (by simp))
 have HG2:=Lib.hid (grown_trans HG1.out (grown_below hb none))
 clear hb H1 HE1 HG1
 go_wp2_with fail
 refine (HS.out _ _ H2.out HN.out.2.1).mono ?_;rintro e w3 ⟨rfl,hb⟩
 have H3:=Lib.hid (H2.out.below hb)
 have HE3:=Lib.hid (HE2.out.kept (grown_below hb none) (by simp))
 have HG3:=Lib.hid (grown_trans HG2.out (grown_below hb none))
 clear hb H2 HE2 HG2
 go_wp2_with fail
 refine (HS.out _ _ H3.out HN.out.2.2.1).mono ?_;rintro e w4 ⟨rfl,hb⟩
 have H4:=Lib.hid (H3.out.below hb)
 have HE4:=Lib.hid (HE3.out.kept (grown_below hb none) (by simp))
 have HG4:=Lib.hid (grown_trans HG3.out (grown_below hb none))
 clear hb H3 HE3 HG3
 go_wp2_with fail
 refine (HS.out _ _ H4.out HN.out.2.2.2).mono ?_;rintro e w5 ⟨rfl,hb⟩
 have H5:=Lib.hid (H4.out.below hb)
 have HE5:=Lib.hid (HE4.out.kept (grown_below hb none) (by simp))
 have HG5:=Lib.hid (grown_trans HG4.out (grown_below hb none))
 clear hb H4 HE4 HG4
 go_wp2_with fail
 refine wp_region_any (by kernel_rfl) ?_
 change wpAny _ _ _ _ _ _ _ (World.drew _)
 refine take1 (i:=0) (d:=58) (v:=.pointer (some ⟨b,0,none⟩)) rfl rfl (by kernel_rfl) (by kernel_rfl) (by kernel_rfl) (fun _ _ _ h=>h) (Or.inl ⟨by kernel_rfl,fun _=>by kernel_rfl⟩) ?_
 refine take1 (i:=1) (d:=59) (v:=.pointer (some ⟨b,0,none⟩)) rfl rfl (by kernel_rfl) (by kernel_rfl) (by kernel_rfl) (fun _ _ _ h=>h) (Or.inl ⟨by kernel_rfl,fun _=>by kernel_rfl⟩) ?_
 refine take1 (i:=2) (d:=60) (v:=.pointer (some ⟨b,0,none⟩)) rfl rfl (by kernel_rfl) (by kernel_rfl) (by kernel_rfl) (fun _ _ _ h=>h) (Or.inl ⟨by kernel_rfl,fun _=>by kernel_rfl⟩) ?_
 refine wpAny_ready (rs:=[3]) (by kernel_rfl) (by simp) (AllReady.cons rfl (fun K hK=>?_) AllReady.nil)
 go_simp
 refine (HP.out _ (H5.out.drewN 1)).mono ?_;rintro e w6 ⟨rfl,hb⟩
 have H6:=Lib.hid ((H5.out.drewN 1).below hb)
 have HE6:=Lib.hid (HE5.out.kept (grown_trans (grown_drewN w5 1 none) (grown_below hb none)) (by simp))
 have HG6:=Lib.hid (grown_trans HG5.out (grown_trans (grown_drewN w5 1 none) (grown_below hb none)))
 clear hb
 refine hK _ _ ?_
 clear hK K
 have c0:=H6.out.c0
 have c1:=H6.out.c1
 have d1:=HD.out _ H6.out
 have hwrap:IntKind.i64.wrap ((nx:Int)+1)=(nx:Int)+1:=IntWalk.i64_in _ (by omega)
 refine take1 (i:=4) (d:=62) (v:=.int .i64 0) rfl rfl (by kernel_rfl) (by kernel_rfl) (by kernel_rfl) (fun _ _ _ h=>h) (Or.inl ⟨by kernel_rfl,fun _=>by kernel_rfl⟩) ?_
 refine take1 (i:=5) (d:=63) (v:=.bool true) rfl rfl (by kernel_rfl) (by kernel_rfl) (by kernel_rfl) (fun _ _ _ h=>h) (Or.inl ⟨by kernel_rfl,fun _=>by kernel_rfl⟩) ?_
 refine take1 (i:=6) (d:=64) (v:=.bool true) rfl rfl (by kernel_rfl) (by kernel_rfl) (by kernel_rfl) (fun _ _ _ h=>h) (Or.inl ⟨by kernel_rfl,fun _=>by kernel_rfl⟩) ?_
 refine take1 (i:=7) (d:=65) (v:=.pointer (some ⟨b,0,none⟩)) rfl rfl (by kernel_rfl) (by kernel_rfl) (by kernel_rfl) (fun _ _ _ h=>h) (Or.inl ⟨by kernel_rfl,fun _=>by kernel_rfl⟩) ?_
 refine take1 (i:=8) (d:=66) (v:=.pointer (some ⟨b,0,none⟩)) rfl rfl (by kernel_rfl) (by kernel_rfl) (by kernel_rfl) (fun _ _ _ h=>h) (Or.inl ⟨by kernel_rfl,fun _=>by kernel_rfl⟩) ?_
 refine take1 (i:=9) (d:=67) (v:=.pointer (some ⟨b,0,none⟩)) rfl rfl (by kernel_rfl) (by kernel_rfl) (by kernel_rfl) (fun _ _ _ h=>h) (Or.inl ⟨by kernel_rfl,fun _=>by kernel_rfl⟩) ?_
 refine take1 (i:=10) (d:=68) (v:=.pointer (some ⟨b,0,none⟩)) rfl rfl (by kernel_rfl) (by kernel_rfl) (by kernel_rfl) (fun _ _ _ h=>h) (Or.inl ⟨by kernel_rfl,fun _=>by kernel_rfl⟩) ?_
 refine take1 (i:=12) (d:=70) (v:=.pointer (some ⟨b,0,none⟩)) rfl rfl (by kernel_rfl) (by kernel_rfl) (by kernel_rfl) (fun _ _ _ h=>h) (Or.inl ⟨by kernel_rfl,fun _=>by kernel_rfl⟩) ?_
 refine take1 (i:=13) (d:=71) (v:=.pointer (some ⟨b,0,none⟩)) rfl rfl (by kernel_rfl) (by kernel_rfl) (by kernel_rfl) (fun _ _ _ h=>h) (Or.inl ⟨by kernel_rfl,fun _=>by kernel_rfl⟩) ?_
 refine take1 (i:=14) (d:=72) (v:=.pointer (some ⟨b,0,none⟩)) rfl rfl (by kernel_rfl) (by kernel_rfl) (by kernel_rfl) (fun _ _ _ h=>h) (Or.inl ⟨by kernel_rfl,fun _=>by kernel_rfl⟩) ?_
 refine take1 (i:=15) (d:=73) (v:=.pointer (some ⟨b,1,none⟩)) rfl rfl (by kernel_rfl) (by kernel_rfl) (by kernel_rfl) (fun _ _ _ h=>h) (Or.inl ⟨by kernel_rfl,fun _=>by kernel_rfl⟩) ?_
 simp only [List.setIfInBounds_toArray,List.set_cons_succ,List.set_cons_zero]
 refine wpAny_ready (rs:=[11,16]) (by kernel_rfl) (by simp) (AllReady.cons rfl (fun K hK=>?_) (AllReady.cons rfl (fun K hK=>?_) AllReady.nil))
 all_goals
  go_simp
  refine hK _ _ ?_
  clear hK K
 ·refine wpAny_ready (rs:=[16]) (by kernel_rfl) (by simp) (AllReady.cons rfl (fun K hK=>?_) AllReady.nil)
  go_simp
  refine hK _ _ ?_
  clear hK K
  refine wpAny_ready (rs:=[17]) (by kernel_rfl) (by simp) (AllReady.cons rfl (fun K hK=>?_) AllReady.nil)
  go_simp
  refine hK _ _ ?_
  clear hK K
  refine wpAny_ready (rs:=[18]) (by kernel_rfl) (by simp) (AllReady.cons rfl (fun K hK=>?_) AllReady.nil)
  go_simp
  refine hK _ _ ?_
  clear hK K
  refine wpAny_ready (rs:=[19]) (by kernel_rfl) (by simp) (AllReady.cons rfl (fun K hK=>?_) AllReady.nil)
  go_simp
  refine hK _ _ ?_
  clear hK K
  refine wpAny_ready (rs:=[20]) (by kernel_rfl) (by simp) (AllReady.cons rfl (fun K hK=>?_) AllReady.nil)
  go_simp
  refine hK _ _ ?_
  clear hK K
  refine wpAny_ready (rs:=[21]) (by kernel_rfl) (by simp) (AllReady.cons rfl (fun K hK=>?_) AllReady.nil)
  go_simp
  refine hK _ _ ?_
  clear hK K
  refine wpAny_ready (rs:=[22]) (by kernel_rfl) (by simp) (AllReady.cons rfl (fun K hK=>?_) AllReady.nil)
  go_simp
  refine hK _ _ ?_
  clear hK K
  refine wpAny_ready (rs:=[23]) (by kernel_rfl) (by simp) (AllReady.cons rfl (fun K hK=>?_) AllReady.nil)
  go_simp
  refine hK _ _ ?_
  clear hK K
  clear hwrap i0 i1 i2 i3 c0 c1 d1 fl0
  refine wpAny_done (by kernel_rfl) ?_ _
  go_wp2_with fail
  refine (HA.out _ H6.out).mono ?_
  rintro e w7 (⟨k,n,s,t,A0,n0,m0,A1,n1,m1,A2,n2,m2,rfl,hr,hw⟩ | ⟨hF,nxF,hnF,rfl,dpF,hpF,hgF⟩)
  rotate_left
  ·exact ⟨rfl,.inr ⟨hF,nxF,hnF,rfl,dpF,hpF,grown_trans (Below.grownBy' HG6.out) hgF⟩⟩
  have HR:=Lib.hid hr
  have HP7:=Lib.hid hw.1
  have HG7:Hid (w.grownBy w7 (some b)):=grown_trans (Below.grownBy' HG6.out) hw.2
  have hz6:w.heap.size < w6.heap.size:=HE6.out.lt
  have HE7:=Lib.hid (HE6.out.kept hw.2 (by simp;omega))
  have e0:=HE7.out.c0
  have e1:=HE7.out.c1
  have e2:=HE7.out.c2
  have e3:=HE7.out.c3
  have e4:=HE7.out.c4
  have e5:=HE7.out.c5
  have e6:=HE7.out.c6
  have r0:=HE7.out.fr 0
  have r1:=HE7.out.fr 1
  have r2:=HE7.out.fr 2
  have r3:=HE7.out.fr 3
  have r4:=HE7.out.fr 4
  have r5:=HE7.out.fr 5
  have r6:=HE7.out.fr 6
  clear hr hw HA
  go_wp2_with fail
  exact bodyPost_retF (res_head rfl (HE7.out.all (.int .i64 k) (.int .i64 n) (.string s) (.string t) (.slice A0 n0 m0) (.slice A1 n1 m1) (.slice A2 n2 m2))) rfl
   ⟨k,n,s,t,A0,n0,m0,A1,n1,m1,A2,n2,m2,rfl,(HR.out.keep (Same.of_grown (set7_grown _ _ _ _ _ _ _ _ _) (fun x hx=>by simp;omega))).weaken (fun x hx=>by omega),
    HP7.out.kept (set7_grown _ _ _ _ _ _ _ _ _) (by simp;omega) (by simp;omega),grown_7 HG7.out (Nat.le_refl _) _ _ _ _ _ _ _⟩
 ·refine wpAny_ready (rs:=[11,17]) (by kernel_rfl) (by simp) (AllReady.cons rfl (fun K hK=>?_) (AllReady.cons rfl (fun K hK=>?_) AllReady.nil))
  all_goals
   go_simp
   refine hK _ _ ?_
   clear hK K
  ·refine wpAny_ready (rs:=[17]) (by kernel_rfl) (by simp) (AllReady.cons rfl (fun K hK=>?_) AllReady.nil)
   go_simp
   refine hK _ _ ?_
   clear hK K
   refine wpAny_ready (rs:=[18]) (by kernel_rfl) (by simp) (AllReady.cons rfl (fun K hK=>?_) AllReady.nil)
   go_simp
   refine hK _ _ ?_
   clear hK K
   refine wpAny_ready (rs:=[19]) (by kernel_rfl) (by simp) (AllReady.cons rfl (fun K hK=>?_) AllReady.nil)
   go_simp
   refine hK _ _ ?_
   clear hK K
   refine wpAny_ready (rs:=[20]) (by kernel_rfl) (by simp) (AllReady.cons rfl (fun K hK=>?_) AllReady.nil)
   go_simp
   refine hK _ _ ?_
   clear hK K
   refine wpAny_ready (rs:=[21]) (by kernel_rfl) (by simp) (AllReady.cons rfl (fun K hK=>?_) AllReady.nil)
   go_simp
   refine hK _ _ ?_
   clear hK K
   refine wpAny_ready (rs:=[22]) (by kernel_rfl) (by simp) (AllReady.cons rfl (fun K hK=>?_) AllReady.nil)
   go_simp
   refine hK _ _ ?_
   clear hK K
   refine wpAny_ready (rs:=[23]) (by kernel_rfl) (by simp) (AllReady.cons rfl (fun K hK=>?_) AllReady.nil)
   go_simp
   refine hK _ _ ?_
   clear hK K
   clear hwrap i0 i1 i2 i3 c0 c1 d1 fl0
   refine wpAny_done (by kernel_rfl) ?_ _
   go_wp2_with fail
   refine (HA.out _ H6.out).mono ?_
   rintro e w7 (⟨k,n,s,t,A0,n0,m0,A1,n1,m1,A2,n2,m2,rfl,hr,hw⟩ | ⟨hF,nxF,hnF,rfl,dpF,hpF,hgF⟩)
   rotate_left
   ·exact ⟨rfl,.inr ⟨hF,nxF,hnF,rfl,dpF,hpF,grown_trans (Below.grownBy' HG6.out) hgF⟩⟩
   have HR:=Lib.hid hr
   have HP7:=Lib.hid hw.1
   have HG7:Hid (w.grownBy w7 (some b)):=grown_trans (Below.grownBy' HG6.out) hw.2
   have hz6:w.heap.size < w6.heap.size:=HE6.out.lt
   have HE7:=Lib.hid (HE6.out.kept hw.2 (by simp;omega))
   have e0:=HE7.out.c0
   have e1:=HE7.out.c1
   have e2:=HE7.out.c2
   have e3:=HE7.out.c3
   have e4:=HE7.out.c4
   have e5:=HE7.out.c5
   have e6:=HE7.out.c6
   have r0:=HE7.out.fr 0
   have r1:=HE7.out.fr 1
   have r2:=HE7.out.fr 2
   have r3:=HE7.out.fr 3
   have r4:=HE7.out.fr 4
   have r5:=HE7.out.fr 5
   have r6:=HE7.out.fr 6
   clear hr hw HA
   go_wp2_with fail
   exact bodyPost_retF (res_head rfl (HE7.out.all (.int .i64 k) (.int .i64 n) (.string s) (.string t) (.slice A0 n0 m0) (.slice A1 n1 m1) (.slice A2 n2 m2))) rfl
    ⟨k,n,s,t,A0,n0,m0,A1,n1,m1,A2,n2,m2,rfl,(HR.out.keep (Same.of_grown (set7_grown _ _ _ _ _ _ _ _ _) (fun x hx=>by simp;omega))).weaken (fun x hx=>by omega),
     HP7.out.kept (set7_grown _ _ _ _ _ _ _ _ _) (by simp;omega) (by simp;omega),grown_7 HG7.out (Nat.le_refl _) _ _ _ _ _ _ _⟩
  ·refine wpAny_ready (rs:=[11]) (by kernel_rfl) (by simp) (AllReady.cons rfl (fun K hK=>?_) AllReady.nil)
   go_simp
   refine hK _ _ ?_
   clear hK K
   refine wpAny_ready (rs:=[18]) (by kernel_rfl) (by simp) (AllReady.cons rfl (fun K hK=>?_) AllReady.nil)
   go_simp
   refine hK _ _ ?_
   clear hK K
   refine wpAny_ready (rs:=[19]) (by kernel_rfl) (by simp) (AllReady.cons rfl (fun K hK=>?_) AllReady.nil)
   go_simp
   refine hK _ _ ?_
   clear hK K
   refine wpAny_ready (rs:=[20]) (by kernel_rfl) (by simp) (AllReady.cons rfl (fun K hK=>?_) AllReady.nil)
   go_simp
   refine hK _ _ ?_
   clear hK K
   refine wpAny_ready (rs:=[21]) (by kernel_rfl) (by simp) (AllReady.cons rfl (fun K hK=>?_) AllReady.nil)
   go_simp
   refine hK _ _ ?_
   clear hK K
   refine wpAny_ready (rs:=[22]) (by kernel_rfl) (by simp) (AllReady.cons rfl (fun K hK=>?_) AllReady.nil)
   go_simp
   refine hK _ _ ?_
   clear hK K
   refine wpAny_ready (rs:=[23]) (by kernel_rfl) (by simp) (AllReady.cons rfl (fun K hK=>?_) AllReady.nil)
   go_simp
   refine hK _ _ ?_
   clear hK K
   clear hwrap i0 i1 i2 i3 c0 c1 d1 fl0
   refine wpAny_done (by kernel_rfl) ?_ _
   go_wp2_with fail
   refine (HA.out _ H6.out).mono ?_
   rintro e w7 (⟨k,n,s,t,A0,n0,m0,A1,n1,m1,A2,n2,m2,rfl,hr,hw⟩ | ⟨hF,nxF,hnF,rfl,dpF,hpF,hgF⟩)
   rotate_left
   ·exact ⟨rfl,.inr ⟨hF,nxF,hnF,rfl,dpF,hpF,grown_trans (Below.grownBy' HG6.out) hgF⟩⟩
   have HR:=Lib.hid hr
   have HP7:=Lib.hid hw.1
   have HG7:Hid (w.grownBy w7 (some b)):=grown_trans (Below.grownBy' HG6.out) hw.2
   have hz6:w.heap.size < w6.heap.size:=HE6.out.lt
   have HE7:=Lib.hid (HE6.out.kept hw.2 (by simp;omega))
   have e0:=HE7.out.c0
   have e1:=HE7.out.c1
   have e2:=HE7.out.c2
   have e3:=HE7.out.c3
   have e4:=HE7.out.c4
   have e5:=HE7.out.c5
   have e6:=HE7.out.c6
   have r0:=HE7.out.fr 0
   have r1:=HE7.out.fr 1
   have r2:=HE7.out.fr 2
   have r3:=HE7.out.fr 3
   have r4:=HE7.out.fr 4
   have r5:=HE7.out.fr 5
   have r6:=HE7.out.fr 6
   clear hr hw HA
   go_wp2_with fail
   exact bodyPost_retF (res_head rfl (HE7.out.all (.int .i64 k) (.int .i64 n) (.string s) (.string t) (.slice A0 n0 m0) (.slice A1 n1 m1) (.slice A2 n2 m2))) rfl
    ⟨k,n,s,t,A0,n0,m0,A1,n1,m1,A2,n2,m2,rfl,(HR.out.keep (Same.of_grown (set7_grown _ _ _ _ _ _ _ _ _) (fun x hx=>by simp;omega))).weaken (fun x hx=>by omega),
     HP7.out.kept (set7_grown _ _ _ _ _ _ _ _ _) (by simp;omega) (by simp;omega),grown_7 HG7.out (Nat.le_refl _) _ _ _ _ _ _ _⟩
def lim (l:Int)(e:Ex):Nat:=if l≤e.lv then 401 else 399
def EndF (ts:List Rt)(nx:Nat):Prop:=∃ t,ts[nx]?=some t∧NoAtom t∧opLv t.s=none∧t.s≠[46]∧t.s≠[91]
def OpF (m:Int)(ts:List Rt)(nx:Nat):Prop:=∃ t,ts[nx]?=some t∧NoAtom t∧(∀ l,opLv t.s=some l→l≤m)∧t.s≠[46]∧t.s≠[91]
def HdF (ts:List Rt)(nx:Nat):Prop:=∃ t,ts[nx]?=some t∧t.s≠[46]∧t.s≠[91]
theorem EndF.op {ts:List Rt}{nx:Nat}(h:EndF ts nx)(m:Int):OpF m ts nx:=by
 obtain ⟨t,h1,h2,h3,h4⟩:=h
 exact ⟨t,h1,h2,(fun l hl=>by rw [h3] at hl;cases hl),h4⟩
theorem OpF.hd {m:Int}{ts:List Rt}{nx:Nat}(h:OpF m ts nx):HdF ts nx:=by
 obtain ⟨t,h1,_,_,h4⟩:=h
 exact ⟨t,h1,h4⟩
theorem OpF.up {m n:Int}{ts:List Rt}{nx:Nat}(h:OpF m ts nx)(hm:m≤n):OpF n ts nx:=by
 obtain ⟨t,h1,h2,h3,h4⟩:=h
 exact ⟨t,h1,h2,(fun l hl=>by have:=h3 l hl;omega),h4⟩
def RdX (e:Ex):Prop:=∀ (F:Prop) (b g go c:Nat) (ts:List Rt) (nx dp:Nat) (w:World),PS w b g go c ts nx dp→TokOk ts→KAt ts nx (atKE 0 e)→EndF ts (nx+(atKE 0 e).length)→dp≤400→(dp+2*hE e≤400∨F) →
 Calls Tryz.prog 20 #[.pointer (some ⟨b,0,none⟩)] w (OF F w b g go c ts (ExprTo w b g go c ts (nx+(atKE 0 e).length) dp e))
def RdA (e:Ex):Prop:=∀ (F:Prop) (b g go c:Nat) (ts:List Rt) (nx dp:Nat) (w:World),PS w b g go c ts nx dp→TokOk ts→KAt ts nx (atKE 5 e)→HdF ts (nx+(atKE 5 e).length)→dp≤400→(dp+2*hE e≤lim 5 e∨F) →
 Calls Tryz.prog 118 #[.pointer (some ⟨b,0,none⟩)] w (OF F w b g go c ts (ExprTo w b g go c ts (nx+(atKE 5 e).length) dp e))
def RdC (e:Ex):Prop:=∀ (F:Prop) (b g go c:Nat) (ts:List Rt) (nx dp:Nat) (w:World) (Chain:Ex→Nat→Prop) (E:Ex) (K:Nat),PS w b g go c ts nx dp→TokOk ts→KAt ts nx (atKE 4 e)→HdF ts (nx+(atKE 4 e).length)→dp≤400→(dp+2*hE e≤lim 4 e∨F) →
 Chain e (nx+(atKE 4 e).length)→(∀ ex n,Chain ex n→CallStep F w b g go c ts dp Chain E K ex n) →
 Calls Tryz.prog 90 #[.pointer (some ⟨b,0,none⟩)] w (OF F w b g go c ts (ExprTo w b g go c ts K dp E))
def RdO (l:Int)(e:Ex):Prop:=∀ (F:Prop) (b g go c:Nat) (ts:List Rt) (nx dp:Nat) (w:World) (Chain:Ex→Nat→Prop) (E:Ex) (K:Nat),PS w b g go c ts nx dp→TokOk ts→KAt ts nx (atKE l e)→OpF l ts (nx+(atKE l e).length)→dp≤400→(dp+2*hE e≤lim l e∨F) →
 Chain e (nx+(atKE l e).length)→(∀ ex n,Chain ex n→ChainF F b g go c ts dp l Chain E K ex n) →
 Calls Tryz.prog 60 #[.pointer (some ⟨b,0,none⟩),.int .i64 l] w (OF F w b g go c ts (ExprTo w b g go c ts K dp E))
def RdP (l:Int)(e:Ex):Prop:=∀ (F:Prop) (b g go c:Nat) (ts:List Rt) (nx dp:Nat) (w:World),PS w b g go c ts nx dp→TokOk ts→KAt ts nx (atKE l e)→OpF (l - 1) ts (nx+(atKE l e).length)→dp≤400→(dp+2*hE e≤lim l e∨F) →
 Calls Tryz.prog 60 #[.pointer (some ⟨b,0,none⟩),.int .i64 l] w (OF F w b g go c ts (ExprTo w b g go c ts (nx+(atKE l e).length) dp e))
theorem ne_op {t:Rt}{l m:Int}(h:∀ k,opLv t.s=some k→k≤m)(hm:m < l):isOp t l=false:=by
 unfold isOp
 rw [decide_eq_false_iff_not]
 intro he
 have:=h l he
 omega
theorem lim_eq {a b:Int}{e:Ex}(h:a≤e.lv↔b≤e.lv):lim a e=lim b e:=by
 unfold lim
 by_cases hc:a≤e.lv
 ·rw [if_pos hc,if_pos (h.1 hc)]
 ·rw [if_neg hc,if_neg (fun hb=>hc (h.2 hb))]
theorem lim_ge (l:Int)(e:Ex):399≤lim l e∧lim l e≤401:=by unfold lim;split <;> omega
theorem rdP_of {l:Int}{e:Ex}(h:RdO l e):RdP l e:=by
 intro F b g go c ts nx dp w hp hok hk hf hd hF
 refine h F b g go c ts nx dp w (fun ex n=>ex=e∧n=nx+(atKE l e).length) e _ hp hok hk (hf.up (by omega)) hd hF ⟨rfl,rfl⟩ ?_
 rintro ex n ⟨rfl,rfl⟩
 obtain ⟨t,ht,h2,h3,_⟩:=hf
 exact ⟨t,ht,.inl ⟨ne_op h3 (by omega),rfl,rfl⟩⟩
theorem rdP4 {e:Ex}(h:RdC e):RdP 4 e:=by
 intro F b g go c ts nx dp w hp hok hk hf hd hF
 refine opF_call b g go c ts nx dp _ e w hp (Lib.hid fun w1 hp1=>?_)
 refine h F b g go c ts nx dp w1 (fun ex n=>ex=e∧n=nx+(atKE 4 e).length) e _ hp1 hok hk hf.hd hd hF ⟨rfl,rfl⟩ ?_
 rintro ex n ⟨rfl,rfl⟩
 obtain ⟨t,ht,h2,_⟩:=hf
 exact ⟨t,ht,.inl ⟨h2,rfl,rfl⟩⟩
theorem rdO_up {l:Int}{e:Ex}(hl:1≤l∧l≤3)(hne:e.lv≠l)(h:RdP (l+1) e):RdO l e:=by
 intro F b g go c ts nx dp w Chain E K hp hok hk hf hd hF h0 hs
 have hiff:l≤e.lv↔l+1≤e.lv:=by omega
 rw [atKE_eq hiff] at hk hf h0
 rw [lim_eq hiff] at hF
 exact opF_any b g go c ts nx dp l hl hok Chain E K e _ w hp (Lib.hid fun w1 hp1=>h F b g go c ts nx dp w1 hp1 hok hk (by rw [Int.add_sub_cancel];exact hf) hd hF) h0 (Lib.hid hs)
theorem lv_prim {s:Txt}{l:Int}{a x:Ex}(h:opLv s=some l):(primE s a x).lv=l:=by
 show lvO 9 s=l
 unfold lvO
 rw [if_pos rfl,h];rfl
theorem hE_prim (s:Txt)(a x:Ex):hE a+1≤hE (primE s a x)∧hE x+1≤hE (primE s a x) :=
 ⟨hE_part (by simp [primE,Ex.parts,Ex.l,Ex.bs]),hE_part (by simp [primE,Ex.parts,Ex.l,Ex.bs])⟩
theorem at_lt {ts:List Rt}{nx:Nat}{t:Rt}(h:ts[nx]?=some t):nx < ts.length:=(List.getElem?_eq_some_iff.1 h).1
theorem OpF.lt {m:Int}{ts:List Rt}{nx:Nat}(h:OpF m ts nx):nx < ts.length:=by
 obtain ⟨t,ht,_⟩:=h
 exact at_lt ht
theorem NoAtom_op {t:Rt}{l:Int}(hk:t.k=4)(h:opLv t.s=some l):NoAtom t:=by
 have h1:t.s∈([[42],[43],[45],[60],[61,61]]:List (List UInt8)):=by
  unfold opLv at h
  split at h
  ·rename_i e;rw [e];decide
  ·split at h
   ·rename_i e;rcases e with e | e <;> rw [e] <;> decide
   ·split at h
    ·rename_i e;rcases e with e | e <;> rw [e] <;> decide
    ·cases h
 have key:∀ x∈([[42],[43],[45],[60],[61,61]]:List (List UInt8)),x≠[116,114,117,101]∧x≠[102,97,108,115,101]∧x≠[40]∧x≠[109,97,116,99,104]∧x≠[104,97,110,100,108,101]∧x≠[115,104,97,108,108,111,119]∧x≠[110,97,109,101,100]:=by decide
 exact ⟨by omega,key _ h1⟩
theorem op_no {s:Txt}{l:Int}(h:opLv s=some l):s≠[46]∧s≠[91]:=by
 constructor <;> (rintro rfl;cases h)
theorem opF_at {ts:List Rt}{nx:Nat}{t:Rt}{s:Txt}{l:Int}(h:opLv s=some l)(ht:ts[nx]?=some t)(hk:t.k=4)(hs:t.s=s):OpF l ts nx:=by
 subst hs
 exact ⟨t,ht,NoAtom_op hk h,(fun m hm=>by rw [h] at hm;injection hm with hm;omega),op_no h⟩
theorem rdO_prim {s:Txt}{l:Int}{a x:Ex}(hl:2≤l∧l≤3)(ho:opLv s=some l)(ha:RdO l a)(hx:RdP (l+1) x):RdO l (primE s a x):=by
 intro F b g go c ts nx dp w Chain E K hp hok hk hf hd hF h0 hs
 have hin:atKE l (primE s a x)=atKE l a++((4,s,0) :: atKE (l+1) x):=by
  rw [atKE_in (by rw [lv_prim ho];omega)]
  have:operandLv l=l:=by unfold operandLv;rw [if_neg (by omega)]
  rw [show exK (primE s a x)=_ from k_prim s l a x ho,this]
 have hlim:lim l (primE s a x)=401:=by unfold lim;rw [if_pos (by rw [lv_prim ho];omega)]
 have hh:=hE_prim s a x
 have la:=lim_ge l a
 have lx:=lim_ge (l+1) x
 rw [hin] at hk hf h0
 rw [hlim] at hF
 have ka:=hk.left
 have kr:=hk.right
 obtain ⟨t,ht,tk,tsx,_⟩:=kr.head
 have kx:=kr.tail
 have hend:nx+(atKE l a++((4,s,0) :: atKE (l+1) x)).length=nx+(atKE l a).length+1+(atKE (l+1) x).length:=by rw [List.length_append,List.length_cons];omega
 rw [hend] at hf h0
 have hlt:=hf.lt
 refine ha F b g go c ts nx dp w (fun ex n=>Chain ex n∨(ex=a∧n=nx+(atKE l a).length)) E K hp hok ka (opF_at ho ht tk tsx) hd (hF.imp_left fun _=>by omega) (.inr ⟨rfl,rfl⟩) ?_
 rintro ex n (hc | ⟨rfl,rfl⟩)
 ·obtain ⟨t',ht',h1⟩:=hs ex n hc
  refine ⟨t',ht',?_⟩
  rcases h1 with h1 | ⟨h1,h2,e2,n2,h3,h4,h5,h6⟩
  ·exact .inl h1
  ·refine .inr ⟨h1,h2,e2,n2,h3,h4,h5,?_⟩
   rcases h6 with h6 | ⟨h6,h7⟩
   ·exact .inl h6
   ·exact .inr ⟨h6,.inl h7⟩
 ·refine ⟨t,ht,.inr ⟨by unfold isOp;rw [tsx,ho];simp,tk,x,nx+(atKE l ex).length+1+(atKE (l+1) x).length,by omega,by omega,fun w1 hp1=>?_,.inr ⟨by omega,.inl (by rw [tsx];exact h0)⟩⟩⟩
  exact hx F b g go c ts _ dp w1 hp1 hok kx (by rw [Int.add_sub_cancel];exact hf) hd (hF.imp_left fun _=>by omega)
theorem rdP_cmp {s:Txt}{a x:Ex}(ho:opLv s=some 1)(ha:RdP 2 a)(hx:RdP 2 x):RdP 1 (primE s a x):=by
 intro F b g go c ts nx dp w hp hok hk hf hd hF
 have hin:atKE 1 (primE s a x)=atKE 2 a++((4,s,0) :: atKE 2 x):=by
  rw [atKE_in (by rw [lv_prim ho];omega)]
  rw [show exK (primE s a x)=_ from k_prim s 1 a x ho]
  rfl
 have hlim:lim 1 (primE s a x)=401:=by unfold lim;rw [if_pos (by rw [lv_prim ho];omega)]
 have hh:=hE_prim s a x
 have la:=lim_ge 2 a
 have lx:=lim_ge 2 x
 rw [hin] at hk hf ⊢
 rw [hlim] at hF
 have ka:=hk.left
 have kr:=hk.right
 obtain ⟨t,ht,tk,tsx,_⟩:=kr.head
 have kx:=kr.tail
 have hend:nx+(atKE 2 a++((4,s,0) :: atKE 2 x)).length=nx+(atKE 2 a).length+1+(atKE 2 x).length:=by rw [List.length_append,List.length_cons];omega
 rw [hend] at hf ⊢
 have hlt:=hf.lt
 refine opF_any b g go c ts nx dp 1 (by omega) hok (fun ex n=>ex=a∧n=nx+(atKE 2 a).length) (primE s a x) _ a _ w hp (Lib.hid fun w1 hp1=>ha F b g go c ts nx dp w1 hp1 hok ka (opF_at ho ht tk tsx) hd (hF.imp_left fun _=>by omega)) ⟨rfl,rfl⟩ (Lib.hid ?_)
 rintro ex n ⟨rfl,rfl⟩
 refine ⟨t,ht,.inr ⟨by unfold isOp;rw [tsx,ho];simp,tk,x,_,by omega,by omega,fun w1 hp1=>?_,.inl ⟨rfl,by rw [tsx],rfl⟩⟩⟩
 exact hx F b g go c ts _ dp w1 hp1 hok kx (hf.up (by omega)) hd (hF.imp_left fun _=>by omega)
theorem rdC_app {f x:Ex}(hf0:RdC f)(hx:RdA x)(hb:Bg5 (atKE 5 x)):RdC (appE f x):=by
 intro F b g go c ts nx dp w Chain E K hp hok hk hf hd hF h0 hs
 have hlv:(appE f x).lv=4:=rfl
 have hin:atKE 4 (appE f x)=atKE 4 f++atKE 5 x:=by
  rw [atKE_in (by rw [hlv];omega)]
  exact k_app f x
 have hlim:lim 4 (appE f x)=401:=by unfold lim;rw [if_pos (by rw [hlv];omega)]
 have h1:hE f+1≤hE (appE f x):=hE_part (by simp [appE,Ex.parts,Ex.l,Ex.bs])
 have h2:hE x+1≤hE (appE f x):=hE_part (by simp [appE,Ex.parts,Ex.l,Ex.bs])
 have la:=lim_ge 4 f
 have lx:=lim_ge 5 x
 rw [hin] at hk hf h0
 rw [hlim] at hF
 have ka:=hk.left
 have kx:=hk.right
 obtain ⟨k,r,ek,b1,b2,b3,b4,b5⟩:=hb
 have kx':=kx
 rw [ek] at kx'
 obtain ⟨t,ht,tk,tsx,_⟩:=kx'.head
 have hy:YesAtom t:=by
  rcases b4 with h | h | h | h
  ·exact .inl (by rw [tk];exact h)
  ·exact .inr (.inl (by rw [tk];exact h))
  ·exact .inr (.inr (.inl (by rw [tk];exact h)))
  ·exact .inr (.inr (.inr (by rw [tsx];exact h)))
 have hhd:HdF ts (nx+(atKE 4 f).length):=⟨t,ht,by rw [tsx];rintro e;exact b1 (by rw [e];decide),by rw [tsx];rintro e;exact b1 (by rw [e];decide)⟩
 have hend:nx+(atKE 4 f++atKE 5 x).length=nx+(atKE 4 f).length+(atKE 5 x).length:=by rw [List.length_append];omega
 have hx0:0 < (atKE 5 x).length:=by rw [ek];simp
 rw [hend] at hf h0
 have hlt:nx+(atKE 4 f).length+(atKE 5 x).length < ts.length:=by
  obtain ⟨t',ht',_⟩:=hf
  exact at_lt ht'
 refine hf0 F b g go c ts nx dp w (fun ex n=>Chain ex n∨(ex=f∧n=nx+(atKE 4 f).length)) E K hp hok ka hhd hd (hF.imp_left fun _=>by omega) (.inr ⟨rfl,rfl⟩) ?_
 rintro ex n (hc | ⟨rfl,rfl⟩)
 ·obtain ⟨t',ht',h1⟩:=hs ex n hc
  refine ⟨t',ht',?_⟩
  rcases h1 with h1 | ⟨h1,e2,n2,h3,h4,h5,h6⟩
  ·exact .inl h1
  ·exact .inr ⟨h1,e2,n2,h3,h4,h5,.inl h6⟩
 ·refine ⟨t,ht,.inr ⟨hy,x,_,by omega,by omega,fun w1 hg1 hp1=>?_,.inl h0⟩⟩
  exact hx F b g go c ts _ dp w1 hp1 hok kx hf hd (hF.imp_left fun _=>by omega)
theorem rdX_op {e:Ex}(h:RdP 1 e)(hlv:1≤e.lv)(hb:Bg1 (exK e)):RdX e:=by
 intro F b g go c ts nx dp w hp hok hk hf hd hF
 have e0:atKE 0 e=exK e:=atKE_in (by omega)
 have e1:atKE 1 e=exK e:=atKE_in hlv
 rw [e0] at hk hf ⊢
 obtain ⟨k,r,ek,b1,b2⟩:=hb
 have hk':=hk
 rw [ek] at hk'
 obtain ⟨t,ht,tk,tsx,_⟩:=hk'.head
 have h1:1≤hE e:=by cases e;rw [hE];omega
 refine exprF_any b g go c ts nx dp _ e w hp hd (hF.imp_left fun _=>by omega) (at_lt ht) (Lib.hid fun hd1 x w1 hp1 hx1=>expr1F_op x b g go c ts nx (dp+1) _ e t w1 hp1 hx1 ht ?_ (Lib.hid fun w2 hp2=>?_))
 ·refine ⟨?_,?_,?_,?_,?_⟩ <;> (rw [tsx];intro he;exact b2 (by rw [he];decide))
 ·have:=h F b g go c ts nx (dp+1) w2 hp2 hok (by rw [e1];exact hk) (by rw [e1];exact hf.op 0) hd1 (hF.imp_left fun _=>by unfold lim;rw [if_pos hlv];omega)
  rwa [e1] at this
theorem no_head {t:Rt}{s:Txt}(h:t.s=s)(hs:s ∉ headS):NoHead t:=by
 refine ⟨?_,?_,?_,?_⟩ <;> (rw [h];intro he;exact hs (by rw [he];decide))
theorem rdC_atom {e:Ex}(h:RdA e)(hne:e.lv≠4)(hb:Bg5 (atKE 5 e))(h0:∀ k r,atKE 5 e=k :: r→k.1≠0):RdC e:=by
 intro F b g go c ts nx dp w Chain E K hp hok hk hf hd hF hc hs
 have hiff:(4:Int)≤e.lv↔5≤e.lv:=by omega
 rw [atKE_eq hiff] at hk hf hc
 rw [lim_eq hiff] at hF
 obtain ⟨k,r,ek,b1,b2,b3,b4,b5,b6⟩:=hb
 have k0:=h0 k r ek
 have hk':=hk
 rw [ek] at hk'
 obtain ⟨t,ht,tk,tsx,_⟩:=hk'.head
 have hn:NoHead t:=no_head tsx b3
 have HA:∀ w',PS w' b g go c ts nx dp→Calls Tryz.prog 118 #[.pointer (some ⟨b,0,none⟩)] w' (OF F w' b g go c ts (ExprTo w' b g go c ts (nx+(atKE 5 e).length) dp e)):=fun w' hp'=>h F b g go c ts nx dp w' hp' hok hk hf hd hF
 have hkk:k.1=1∨k.1=2∨k.1=3∨k.1=4:=by omega
 refine pCall_any b g go c ts nx dp Chain E K e _ w hp (Lib.hid fun w1 hg1 hp1=>?_) hc (Lib.hid hs)
 rcases hkk with hkk | hkk | hkk | hkk
 ·exact head_kw b g go c ts nx dp t _ e w1 hp1 ht (by rw [tk,hkk]) hn (Lib.hid fun w2 _ hp2=>HA w2 hp2)
 ·exact head_up b g go c ts nx dp t _ e w1 hp1 ht (by rw [tk,hkk]) hn (Lib.hid fun w2 _ hp2=>HA w2 hp2)
 ·exact head_num b g go c ts nx dp t _ e w1 hp1 ht (by rw [tk,hkk]) hn (Lib.hid fun w2 _ hp2=>HA w2 hp2)
 ·exact head_sym b g go c ts nx dp t _ e w1 hp1 ht (by rw [tk,hkk]) hn (Lib.hid fun w2 _ hp2=>HA w2 hp2)
theorem leaf_var {t:Rt}{s:Txt}(hk:t.k=0)(hs:t.s=s):leafOf t=.mk 0 0 s [] [] [] [] []:=by
 unfold leafOf
 rw [if_neg (by omega),hs]
theorem rdA_var {s:Txt}(hv:isV s=true):RdA (.mk 0 0 s [] [] [] [] []):=by
 intro F b g go c ts nx dp w hp hok hk hf hd hF
 have hin:atKE 5 (.mk 0 0 s [] [] [] [] [])=[wk s]:=by rw [atKE_in (lvl (b:=5) rfl (by decide)),k_var]
 rw [hin,wk_v hv] at hk
 rw [hin] at hf ⊢
 obtain ⟨t,ht,tk,tsx,_⟩:=hk.head
 have hl:lim 5 (.mk 0 0 s [] [] [] [] [])=401:=rfl
 have h1:hE (.mk 0 0 s [] [] [] [] [])=1:=rfl
 rw [hl,h1] at hF
 refine atomF_any b g go c ts nx dp _ _ w hp hd (hF.imp_left fun _=>by omega) (at_lt ht) (Lib.hid fun hd1 x w1 hp1 hx1=>?_)
 have:=atom1_var x b g go c ts nx (dp+1) t w1 hp1 hx1 ht tk hok
 rw [leaf_var tk tsx] at this
 exact this.mono fun _ _ h=>.inl h
theorem rdC_var {s:Txt}(hv:isV s=true):RdC (.mk 0 0 s [] [] [] [] []):=by
 intro F b g go c ts nx dp w Chain E K hp hok hk hf hd hF hc hs
 have hin:atKE 4 (.mk 0 0 s [] [] [] [] [])=[wk s]:=by rw [atKE_in (lvl (b:=5) rfl (by decide)),k_var]
 have hin5:atKE 5 (.mk 0 0 s [] [] [] [] [])=[wk s]:=by rw [atKE_in (lvl (b:=5) rfl (by decide)),k_var]
 have hk0:=hk
 have hf0:=hf
 rw [hin,wk_v hv] at hk
 rw [hin] at hf hc
 obtain ⟨t,ht,tk,tsx,_⟩:=hk.head
 obtain ⟨t2,ht2,hd2,_⟩:=hf
 have hn:NoHead t:=no_head tsx (v_nin hv (by decide))
 refine pCall_any b g go c ts nx dp Chain E K _ _ w hp (Lib.hid fun w1 hg1 hp1=>?_) hc (Lib.hid hs)
 have:=headF_var (F:=F) b g go c ts nx dp t w1 hp1 ht tk hn t2 ht2 hd2 hok.1 (Lib.hid fun w2 hp2=>by
  have:=rdA_var hv F b g go c ts nx dp w2 hp2 hok (by rw [hin5,← hin];exact hk0) (by rw [hin5,← hin];exact hf0) hd hF
  rw [hin5] at this
  rw [leaf_var tk tsx]
  exact this)
 rw [leaf_var tk tsx] at this
 exact this
theorem rdC_do {s:Txt}{e0:Ex}(hs0:isV s=true)(h:RdA e0):RdC (.mk 12 0 s [] [] [e0] [] []):=by
 intro F b g go c ts nx dp w Chain E K hp hok hk hf hd hF hc hs
 have hin:atKE 4 (.mk 12 0 s [] [] [e0] [] [])=wk [100,111] :: wk s :: atKE 5 e0:=by rw [atKE_in (lvl (b:=4) rfl (by decide)),k_do]
 have hl:lim 4 (.mk 12 0 s [] [] [e0] [] [])=401:=rfl
 have hh:hE e0+1≤hE (.mk 12 0 s [] [] [e0] [] []):=hE_part (by simp [Ex.parts,Ex.l,Ex.bs])
 have l5:=lim_ge 5 e0
 rw [hin,wk_k (show isKw [100,111]=true by decide),wk_v hs0] at hk
 rw [hin] at hf hc
 rw [hl] at hF
 obtain ⟨t,ht,tk,tsx,_⟩:=hk.head
 obtain ⟨t1,ht1,tk1,tsx1,_⟩:=hk.tail.head
 have ka:=hk.tail.tail
 have hend:nx+(wk [100,111] :: wk s :: atKE 5 e0).length=nx+1+1+(atKE 5 e0).length:=by simp only [List.length_cons];omega
 rw [hend] at hf hc
 refine pCall_any b g go c ts nx dp Chain E K _ _ w hp (Lib.hid fun w1 hg1 hp1=>?_) hc (Lib.hid hs)
 have:=head_do (F:=F) b g go c ts nx _ dp t t1 e0 w1 hp1 ht tsx ht1 tk1 hok.1 (hok.2 _ _ ht1).1 (Lib.hid fun w2 _ hp2=>h F b g go c ts _ dp w2 hp2 hok ka hf hd (hF.imp_left fun _=>by omega))
 rwa [tsx1] at this
theorem rdC_mask {s:Txt}{e0:Ex}(hs0:isNm 2 s=true)(h:RdA e0):RdC (.mk 16 0 s [] [] [e0] [] []):=by
 intro F b g go c ts nx dp w Chain E K hp hok hk hf hd hF hc hs
 have hin:atKE 4 (.mk 16 0 s [] [] [e0] [] [])=wk [109,97,115,107] :: wk s :: atKE 5 e0:=by rw [atKE_in (lvl (b:=4) rfl (by decide)),k_mask]
 have hl:lim 4 (.mk 16 0 s [] [] [e0] [] [])=401:=rfl
 have hh:hE e0+1≤hE (.mk 16 0 s [] [] [e0] [] []):=hE_part (by simp [Ex.parts,Ex.l,Ex.bs])
 have l5:=lim_ge 5 e0
 rw [hin,wk_k (show isKw [109,97,115,107]=true by decide),wk_u hs0] at hk
 rw [hin] at hf hc
 rw [hl] at hF
 obtain ⟨t,ht,tk,tsx,_⟩:=hk.head
 obtain ⟨t1,ht1,tk1,tsx1,_⟩:=hk.tail.head
 have ka:=hk.tail.tail
 have hend:nx+(wk [109,97,115,107] :: wk s :: atKE 5 e0).length=nx+1+1+(atKE 5 e0).length:=by simp only [List.length_cons];omega
 rw [hend] at hf hc
 refine pCall_any b g go c ts nx dp Chain E K _ _ w hp (Lib.hid fun w1 hg1 hp1=>?_) hc (Lib.hid hs)
 have:=head_mask (F:=F) b g go c ts nx _ dp t t1 e0 w1 hp1 ht tsx ht1 tk1 hok.1 (hok.2 _ _ ht1).1 (Lib.hid fun w2 _ hp2=>h F b g go c ts _ dp w2 hp2 hok ka hf hd (hF.imp_left fun _=>by omega))
 rwa [tsx1] at this
theorem rdC_resume {s:Txt}{e0:Ex}(hs0:isV s=true)(h:RdA e0):RdC (.mk 18 0 s [] [] [e0] [] []):=by
 intro F b g go c ts nx dp w Chain E K hp hok hk hf hd hF hc hs
 have hin:atKE 4 (.mk 18 0 s [] [] [e0] [] [])=wk [114,101,115,117,109,101] :: wk s :: atKE 5 e0:=by rw [atKE_in (lvl (b:=4) rfl (by decide)),k_resume]
 have hl:lim 4 (.mk 18 0 s [] [] [e0] [] [])=401:=rfl
 have hh:hE e0+1≤hE (.mk 18 0 s [] [] [e0] [] []):=hE_part (by simp [Ex.parts,Ex.l,Ex.bs])
 have l5:=lim_ge 5 e0
 rw [hin,wk_k (show isKw [114,101,115,117,109,101]=true by decide),wk_v hs0] at hk
 rw [hin] at hf hc
 rw [hl] at hF
 obtain ⟨t,ht,tk,tsx,_⟩:=hk.head
 obtain ⟨t1,ht1,tk1,tsx1,_⟩:=hk.tail.head
 have ka:=hk.tail.tail
 have hend:nx+(wk [114,101,115,117,109,101] :: wk s :: atKE 5 e0).length=nx+1+1+(atKE 5 e0).length:=by simp only [List.length_cons];omega
 rw [hend] at hf hc
 refine pCall_any b g go c ts nx dp Chain E K _ _ w hp (Lib.hid fun w1 hg1 hp1=>?_) hc (Lib.hid hs)
 have:=head_resume (F:=F) b g go c ts nx _ dp t t1 e0 w1 hp1 ht tsx ht1 tk1 hok.1 (hok.2 _ _ ht1).1 (Lib.hid fun w2 _ hp2=>h F b g go c ts _ dp w2 hp2 hok ka hf hd (hF.imp_left fun _=>by omega))
 rwa [tsx1] at this
theorem rdC_drop {s:Txt}(hs0:isV s=true):RdC (.mk 19 0 s [] [] [] [] []):=by
 intro F b g go c ts nx dp w Chain E K hp hok hk hf hd hF hc hs
 have hin:atKE 4 (.mk 19 0 s [] [] [] [] [])=[wk [100,114,111,112],wk s]:=by rw [atKE_in (lvl (b:=4) rfl (by decide)),k_drop]
 rw [hin,wk_k (show isKw [100,114,111,112]=true by decide),wk_v hs0] at hk
 rw [hin] at hf hc
 obtain ⟨t,ht,tk,tsx,_⟩:=hk.head
 obtain ⟨t1,ht1,tk1,tsx1,_⟩:=hk.tail.head
 refine pCall_any b g go c ts nx dp Chain E K _ _ w hp (Lib.hid fun w1 hg1 hp1=>?_) hc (Lib.hid hs)
 have:=head_drop (F:=F) b g go c ts nx dp t t1 w1 hp1 ht tsx ht1 tk1 hok.1 (hok.2 _ _ ht1).1
 rwa [tsx1] at this
theorem rdC_at {s t0:Txt}{e0:Ex}(hs0:isV s=true)(ht0:isV t0=true)(h:RdA e0):RdC (.mk 13 0 s t0 [] [e0] [] []):=by
 intro F b g go c ts nx dp w Chain E K hp hok hk hf hd hF hc hs
 have hin:atKE 4 (.mk 13 0 s t0 [] [e0] [] [])=wk s :: (4,[46],0) :: wk t0 :: atKE 5 e0:=by rw [atKE_in (lvl (b:=4) rfl (by decide)),k_at]
 have hl:lim 4 (.mk 13 0 s t0 [] [e0] [] [])=401:=rfl
 have hh:hE e0+1≤hE (.mk 13 0 s t0 [] [e0] [] []):=hE_part (by simp [Ex.parts,Ex.l,Ex.bs])
 have l5:=lim_ge 5 e0
 rw [hin,wk_v hs0,wk_v ht0] at hk
 rw [hin] at hf hc
 rw [hl] at hF
 obtain ⟨t,ht,tk,tsx,_⟩:=hk.head
 obtain ⟨t2,ht2,_,tsx2,_⟩:=hk.tail.head
 obtain ⟨t3,ht3,tk3,tsx3,_⟩:=hk.tail.tail.head
 have ka:=hk.tail.tail.tail
 have hend:nx+(wk s :: (4,[46],0) :: wk t0 :: atKE 5 e0).length=nx+1+1+1+(atKE 5 e0).length:=by simp only [List.length_cons];omega
 rw [hend] at hf hc
 refine pCall_any b g go c ts nx dp Chain E K _ _ w hp (Lib.hid fun w1 hg1 hp1=>?_) hc (Lib.hid hs)
 have:=head_at (F:=F) b g go c ts nx _ dp t e0 w1 hp1 ht tk (no_head tsx (v_nin hs0 (by decide))) t2 ht2 tsx2 t3 ht3 tk3 hok.1 ⟨(hok.2 _ _ ht).1,(hok.2 _ _ ht3).1⟩ (Lib.hid fun w2 _ hp2=>h F b g go c ts _ dp w2 hp2 hok ka hf hd (hF.imp_left fun _=>by omega))
 rwa [tsx,tsx3] at this
theorem par_read {e:Ex}(h:RdX e)(hlv:0≤e.lv)(hb:Bg0 (exK e))(F:Prop)(b g go c:Nat)(ts:List Rt)(nx dp:Nat)(w:World)(hp:PS w b g go c ts nx dp)(hok:TokOk ts)(hk:KAt ts nx ((4,[40],0) :: (exK e++[(4,[41],0)])))(hd:dp≤400)(hF:dp+2*hE e≤399∨F) :
  Calls Tryz.prog 118 #[.pointer (some ⟨b,0,none⟩)] w (OF F w b g go c ts (ExprTo w b g go c ts (nx+((4,[40],0) :: (exK e++[(4,[41],0)]):List Ky).length) dp e)):=by
 have e0:atKE 0 e=exK e:=atKE_in hlv
 obtain ⟨t,ht,tk,tsx,_⟩:=hk.head
 have kt:=hk.tail
 obtain ⟨t3,ht3,tk3,tsx3,_⟩:=kt.right.head
 obtain ⟨k,r,ek,b1⟩:=hb
 have kx:=kt.left
 have kx':=kx
 rw [ek] at kx'
 obtain ⟨t1,ht1,tk1,tsx1,_⟩:=kx'.head
 have hend:nx+((4,[40],0) :: (exK e++[(4,[41],0)]):List Ky).length=nx+1+(exK e).length+1:=by simp only [List.length_cons,List.length_append,List.length_nil];omega
 rw [hend]
 have h1:1≤hE e:=by cases e;rw [hE];omega
 refine atomF_any b g go c ts nx dp _ e w hp hd (hF.imp_left fun _=>by omega) (at_lt ht) (Lib.hid fun hd1 x w1 hp1 hx1=>atom1_sym x b g go c ts nx _ (dp+1) t e w1 hp1 hx1 ht tk (Lib.hid fun w2 _ hp2=>enc_par b g go c ts nx _ (dp+1) t e w2 hp2 ht tsx (Lib.hid fun w3 _ hp3=>?_)))
 refine par_expr b g go c ts nx _ (dp+1) t t1 t3 e w3 hp3 ht tsx ht1 ?_ ht3 tsx3 hok.1 (Lib.hid fun w4 _ hp4=>?_)
 ·rw [tsx1]
  exact ⟨fun he=>b1 (by rw [he];decide),fun he=>b1 (by rw [he];decide)⟩
 ·have:=h F b g go c ts (nx+1) (dp+1) w4 hp4 hok (by rw [e0];exact kx) (by
   rw [e0]
   exact ⟨t3,ht3,by rw [show NoAtom t3↔_ from Iff.rfl];refine ⟨by omega,?_⟩;rw [tsx3];decide,by rw [tsx3];decide,by rw [tsx3];decide⟩) hd1 (hF.imp_left fun _=>by omega)
  rwa [e0] at this
theorem rdA_par {e:Ex}(h:RdX e)(hlv:0≤e.lv∧e.lv < 5)(hb:Bg0 (exK e)):RdA e:=by
 intro F b g go c ts nx dp w hp hok hk hf hd hF
 have hno:¬ 5≤e.lv:=by omega
 rw [atKE_out hno] at hk ⊢
 unfold lim at hF
 rw [if_neg hno] at hF
 exact par_read h hlv.1 hb F b g go c ts nx dp w hp hok hk hd hF
set_option maxRecDepth 100000 in
set_option maxHeartbeats 4000000 in
theorem sepA_cl {F:Prop}(b g go c z fb xp:Nat)(ts:List Rt)(nx dp:Nat)(L:List Am)(hd:Nat→Nat)(wb w:World)(h:PS w b g go c ts nx dp)(hgb:wb.grownBy w (some b))(hfb:wb.heap.size≤fb∧fb < w.heap.size∧fb≠b∧fb≠g)(hbx:BxB w fb true)(hz:NamesAt (fun x=>x≠b∧x≠fb) w (some ⟨z,0,none⟩) [[125]])(h0:hd 0=nx)(hL:L.length≤100000)(hlen:ts.length≤100000)(hok:∀ x∈L,okS x.1.1∧∀ y∈x.1.2,okS y)
  (hread:∀ (kk:Nat) (x:Am),L[kk]?=some x→∀ w',wb.grownBy w' (some b)→PS w' b g go c ts (if kk=0 then nx else hd kk+1) dp→BxB w' fb (kk == 0)→Calls Tryz.prog 167 #[.pointer (some ⟨fb,0,none⟩),.pointer (some ⟨xp,0,none⟩)] w' (OF F wb b g go c ts fun e w2=>∃ wm,w'.grownBy wm (some fb)∧BxB wm fb false∧ArmTo wm b g go c ts (hd (kk+1)) dp x.1.1 x.1.2 x.2 e w2))
  (hcomma:∀ kk,0 < kk→kk < L.length→∃ t,ts[hd kk]?=some t∧t.s=[59])
  (hfirst:0 < L.length→∃ t,ts[nx]?=some t∧t.s≠[125])
  (hend:∃ t,ts[hd L.length]?=some t∧t.s=[125]) :
  Calls Tryz.prog 158 #[.pointer (some ⟨b,0,none⟩),.string ⟨#[59]⟩,.func (.func 167) #[] #[.pointer (some ⟨fb,0,none⟩),.pointer (some ⟨xp,0,none⟩)],.slice (some ⟨z,0,none⟩) 1 1] w (OF F wb b g go c ts (ArmsTo wb b g go c ts (hd L.length) dp L)):=by
 obtain ⟨i0,hi,hz0,hz1,hz2⟩:=info_parts infoAm
 have H:=Lib.hid h
 have hbl:=h.blt
 have hgl:=h.lt
 have HE:=Lib.hid hz
 have HL:=Lib.hid hread
 have HC:=Lib.hid hcomma
 have HF:=Lib.hid hfirst
 have HD:=Lib.hid hend
 have HOk:=Lib.hid hok
 have HB0:=Lib.hid hgb
 have hf1:=hfb.1
 have hf2:=hfb.2.1
 have hf3:=hfb.2.2.1
 have hf4:=hfb.2.2.2
 have HBx:=Lib.hid hbx
 have hbz:=hgb.size
 obtain ⟨n,hn⟩:∃ n,n=L.length:=⟨_,rfl⟩
 have HN:=Lib.hid hn
 have hn2:n≤100000:=by omega
 have H0:=Lib.hid h0
 rw [← hn] at HC HF HD
 clear h hz hread hcomma hfirst hend hn hL h0 hok hgb hfb hbx
 go_enter Tryz.func158,Tryz.ntmps158
 go_wp2_with fail
 go_step3
 go_wp2_with fail
 go_step3
 go_wp2_with fail
 go_loopw [8,9] (fun v f wr=>∃ (kk:Nat) (A':Option Addr) (c':Nat) (cl:List (List Value)),kk≤n∧((kk=0∧f=.bool true)∨(0 < kk∧f=.bool false))∧v=.slice A' kk c'∧Hid (wr.ownsRow w.heap.size 57 9 (.slice A' kk c') kk cl.flatten)∧Hid (CellsA (fun x=>w.heap.size≤x∧some x≠(Value.slice A' kk c').ownBlock) wr (L.take kk) cl)∧Hid (PS wr b g go c ts (hd kk) dp)∧Hid (wb.grownBy wr (some b))∧w.heap.size≤wr.heap.size∧Hid (BxB wr fb (kk == 0))∧Hid (Same (fun x=>x≠b∧x≠fb∧x < w.heap.size) w wr)) (fun v _ _=>n - slLen2 v)
 case atStart=>exact ⟨0,none,0,[],Nat.zero_le _,.inl ⟨rfl,rfl⟩,rfl,Lib.hid (World.ownsRow_nil _ _ _ _),Lib.hid ⟨by simp,fun j e c h1 h2=>by simp at h2⟩,by rw [H0.out];exact H,HB0,Nat.le_refl _,HBx,Lib.hid (Same.refl _ _)⟩
 case round =>
  obtain ⟨kk,A',c',cl,hkk,hf,rfl,hO,hC,hP,hG,hgz,hBx,hSm⟩:=hrel
  have HEr:=Lib.hid (((HE.out.tight.weaken (fun x hx=>(⟨hx.1.1,hx.1.2,hx.2⟩:x≠b∧x≠fb∧x < w.heap.size))).keep hSm.out).weaken (fun x hx=>(⟨hx.1,hx.2.1⟩:x≠b∧x≠fb)))
  have hzr:w.heap.size≤wr.heap.size:=hgz
  rcases hf with ⟨h0,rfl⟩ | ⟨h0,rfl⟩
  ·subst h0
   by_cases hn0:n=0
   ·obtain ⟨t,ht,hts⟩:=HD.out
    rw [hn0] at ht
    have HPk:=Lib.hid (peek_any b g go c ts (hd 0) dp t wr hP.out ht)
    obtain ⟨S,hS⟩:∃ S,S=strB t.s:=⟨_,rfl⟩
    have HCt:Hid (∀ w',Below wr.heap.size wr w'→Calls Tryz.prog 115 #[.slice (some ⟨z,0,none⟩) 1 1,.string S] w' fun e w''=>e=.returned (.bool true)∧w'=w''):=Lib.hid (fun w' hb=>by
     have:=contains_any (fun x=>x≠b∧x≠fb) (some ⟨z,0,none⟩) 1 [[125]] t.s w' (HEr.out.keep (Same.of_below hb)) (by unfold maxLen;simp)
     rw [show ([[125]]:List (List UInt8)).contains t.s=true by rw [hts];rfl,← hS] at this
     exact this)
    rw [← hS] at HPk
    have fl1:=tfield1
    clear hS hts ht
    go_wp2_with fail
    refine HPk.out.mono ?_
    rintro e w1 ⟨rfl,hb⟩
    have HB:=Lib.hid hb
    have HP1:=Lib.hid (hP.out.below hb)
    have HO1:=Lib.hid (hO.out.kept (grown_below hb none) (by cases (Value.slice A' 0 c').ownBlock <;> simp))
    have HC1:=Lib.hid (hC.out.keep (Same.of_below hb))
    have HG1:=Lib.hid (grown_trans hG.out (grown_below hb _))
    have hzw1:w.heap.size≤w1.heap.size:=Nat.le_trans hzr hb.size
    have HBx1:=Lib.hid (hBx.out.kept (grown_below hb none) (by simp))
    have HSm1:=Lib.hid (hSm.out.trans (Same.of_below hb))
    clear hb
    go_wp2_with fail
    refine (HCt.out _ HB.out).mono ?_
    rintro e w3 ⟨rfl,rfl⟩
    go_wp2_with fail
    subst hn0
    rw [Exit.noGoto_ret]
    go_ret
    refine .inl ?_
    have hcl:=HC1.out.weaken (Q:=fun x=>w.heap.size≤x) (fun x hx=>hx.1)
    rw [List.take_of_length_le (by rw [← HN.out];exact Nat.le_refl _)] at hcl
    obtain ⟨l1,l2,l3⟩:=hcl.list HN.out HO1.out
    exact ⟨A',c',by rw [← HN.out];rfl,fun hne=>by obtain ⟨y,off,e1,e2,e3,e4⟩:=l1 hne;exact ⟨y,off,e1,Nat.le_trans hbz e2,e3,e4.weaken (fun x hx=>Nat.le_trans hbz hx)⟩,by rw [← HN.out];exact ⟨l2,l3⟩,by rw [← HN.out];exact ⟨HP1.out,HG1.out⟩⟩
   ·have hn1:0 < n:=Nat.pos_of_ne_zero hn0
    obtain ⟨t,ht,hts⟩:=HF.out hn1
    rw [← H0.out] at ht
    obtain ⟨x,hx⟩:∃ x,x=L[0]'(by rw [← HN.out];exact hn1):=⟨_,rfl⟩
    have HX:Hid (L[0]?=some x):=Lib.hid (by rw [hx];exact List.getElem?_eq_getElem _)
    clear hx
    have HPk:=Lib.hid (peek_any b g go c ts (hd 0) dp t wr hP.out ht)
    obtain ⟨S,hS⟩:∃ S,S=strB t.s:=⟨_,rfl⟩
    have HCt:Hid (∀ w',Below wr.heap.size wr w'→Calls Tryz.prog 115 #[.slice (some ⟨z,0,none⟩) 1 1,.string S] w' fun e w''=>e=.returned (.bool false)∧w'=w''):=Lib.hid (fun w' hb=>by
     have:=contains_any (fun x=>x≠b∧x≠fb) (some ⟨z,0,none⟩) 1 [[125]] t.s w' (HEr.out.keep (Same.of_below hb)) (by unfold maxLen;simp)
     rw [show ([[125]]:List (List UInt8)).contains t.s=false by simp [hts],← hS] at this
     exact this)
    rw [← hS] at HPk
    have fl1:=tfield1
    clear hS hts ht
    go_wp2_with fail
    refine HPk.out.mono ?_
    rintro e w1 ⟨rfl,hb⟩
    have HB:=Lib.hid hb
    have HP1:=Lib.hid (hP.out.below hb)
    have HO1:=Lib.hid (hO.out.kept (grown_below hb none) (by cases (Value.slice A' 0 c').ownBlock <;> simp))
    have HC1:=Lib.hid (hC.out.keep (Same.of_below hb))
    have HG1:=Lib.hid (grown_trans hG.out (grown_below hb _))
    have hzw1:w.heap.size≤w1.heap.size:=Nat.le_trans hzr hb.size
    have HBx1:=Lib.hid (hBx.out.kept (grown_below hb none) (by simp))
    have HSm1:=Lib.hid (hSm.out.trans (Same.of_below hb))
    clear hb
    go_wp2_with fail
    refine (HCt.out _ HB.out).mono ?_
    rintro e w3 ⟨rfl,rfl⟩
    go_wp2_with fail
    have HLb:=Lib.hid (HL.out _ x HX.out)
    rw [if_pos rfl,← H0.out] at HLb
    refine (HLb.out _ HG1.out HP1.out HBx1.out).mono ?_
    rintro e w2 (⟨wm,hgm,hbm,An,cn,k,m,s,u,A0,n0,m0,A1,n1,m1,A2,n2,m2,rfl,hnm,hcn,hr,hw⟩ | ⟨hF,nxF,hnF,rfl,dpF,hpF,hgF⟩)
    rotate_left
    ·exact ⟨rfl,.inr ⟨hF,nxF,hnF,rfl,dpF,hpF,hgF⟩⟩
    have hwm:w.heap.size≤wm.heap.size:=Nat.le_trans hzw1 hgm.size
    have HOm:=Lib.hid (HO1.out.kept hgm (own_apart2 HO1.out hf2))
    have HCm:=Lib.hid (HC1.out.keep (Same.of_grown hgm (fun x hx=>by have:=hx.1;simp;omega)))
    have HGm:=Lib.hid (grown_own2 HG1.out hgm (fun k hk=>by have:=Option.some.inj hk;omega))
    have HBxm:=Lib.hid hbm
    have HSmm:=Lib.hid ((HSm1.out.trans (Same.of_grown hgm (fun x hx=>by simpa using hx.2.1))).trans (Same.of_grown hw.2 (fun x hx=>by simpa using hx.1)))
    clear hgm hbm
    have HP2:=Lib.hid hw.1
    have HO2:=Lib.hid (HOm.out.kept hw.2 (own_apart2 HOm.out hbl))
    have HC2:=Lib.hid ((HCm.out.keep (Same.of_grown hw.2 (fun x hx=>by have:=hx.1;simp;omega))).tight)
    have HG2:=Lib.hid (grown_trans HGm.out hw.2)
    have HW2:=Lib.hid hw.2
    obtain ⟨⟨op,ns⟩,ex⟩:=x
    obtain ⟨NL,hNL⟩:∃ NL,NL=ns.length:=⟨_,rfl⟩
    obtain ⟨OP,hOP⟩:∃ OP,OP=strB op:=⟨_,rfl⟩
    have hokx:=HOk.out _ (List.mem_of_getElem? HX.out)
    have hres:∀ y,wm.heap.size≤y→w.heap.size≤y∧some y≠(Value.slice A' 0 c').ownBlock:=fun y hy=>⟨by have:=hwm;omega,fun e=>by have:=(HOm.out.lt _ e.symm).2;omega⟩
    have HR2:Hid (ArmC (fun x=>(w.heap.size≤x∧some x≠(Value.slice A' 0 c').ownBlock)∧x < w2.heap.size) w2 ((op,ns),ex) [.string OP,.slice An NL cn,.int .i64 k,.int .i64 m,.string s,.string u,.slice A0 n0 m0,.slice A1 n1 m1,.slice A2 n2 m2]):=Lib.hid (ArmC.weaken (ArmC.tight (P:=fun x=>wm.heap.size≤x) ⟨An,cn,[.int .i64 k,.int .i64 m,.string s,.string u,.slice A0 n0 m0,.slice A1 n1 m1,.slice A2 n2 m2],⟨hokx.1,hokx.2,hcn.1,hcn.2⟩,rfl,by rw [hOP,hNL],hnm,hr⟩) (fun y hy=>⟨hres y hy.1,hy.2⟩))
    rw [← hOP,← hNL]
    have hzw2:=HW2.out.size
    clear hr hw HLb hokx hnm hcn hres hNL hOP
    go_wp2_with (at_builtin;refine wpList_append_own_at _ rfl _ _ 25 rfl w.heap.size 57 i0 (.agg #[.string ⟨#[]⟩,.slice none 0 0,.int .i64 0,.int .i64 0,.string ⟨#[]⟩,.string ⟨#[]⟩,.slice none 0 0,.slice none 0 0,.slice none 0 0]) 9 160 Tryz.underlying25 hi hz0 hz1 hz2 rfl (by decide) _ _ _ rfl ((HO2.out.alloc _).alloc _) ⟨w2.heap.size+1,0,none⟩ 1 1 [.string OP,.slice An NL cn,.int .i64 k,.int .i64 m,.string s,.string u,.slice A0 n0 m0,.slice A1 n1 m1,.slice A2 n2 m2] rfl rfl (cell_am2 w2 _ _ _ _ _ _ _ _ _) (am_one _ _ _ _ _ _ _ _ _ _ _ _ _ _ _ _ _) (by unfold maxLen;omega) (by omega) (by simp;omega) ?_;intro v' w4 hown' hgrow _ hat;obtain ⟨A3,c3,rfl⟩:=own_slice hown';have HO4:=Lib.hid hown';have HGr:=Lib.hid hgrow;have HAt:=Lib.hid hat;clear hown' hgrow hat)
    have hal:w2.grownBy ((w2.alloc (.cells #[.string OP,.slice An NL cn,.int .i64 k,.int .i64 m,.string s,.string u,.slice A0 n0 m0,.slice A1 n1 m1,.slice A2 n2 m2] 57)).alloc (.cells #[.string OP,.slice An NL cn,.int .i64 k,.int .i64 m,.string s,.string u,.slice A0 n0 m0,.slice A1 n1 m1,.slice A2 n2 m2] 57)) none:=grown_trans (World.grownBy_alloc w2 _ none) (World.grownBy_alloc _ _ none)
    have HP4:=Lib.hid ((HP2.out.kept hal (by simp) (by simp)).kept HGr.out (own_ne2 HO2.out hbl) (own_ne2 HO2.out hgl))
    have HG4:=Lib.hid (grown_own2 (grown_trans HG2.out (grown_trans (World.grownBy_alloc w2 _ _) (World.grownBy_alloc _ _ _))) HGr.out (fun k hk=>Nat.le_trans hbz (own_from2 HO2.out hk)))
    have hsa:Same (fun x=>(w.heap.size≤x∧some x≠(Value.slice A' 0 c').ownBlock)∧x < w2.heap.size) w2 w4:=(Same.of_grown hal (fun x hx=>by simp)).trans (Same.of_grown HGr.out (fun x hx=>hx.1.2))
    have HTk:Hid (L.take (0+1)=L.take 0++[((op,ns),ex)]):=Lib.hid (by rw [List.take_add_one,HX.out];rfl)
    have HC4:Hid (CellsA (fun x=>w.heap.size≤x∧some x≠(Value.slice A3 (0+1) c3).ownBlock) w4 (L.take (0+1)) (cl++[[.string OP,.slice An NL cn,.int .i64 k,.int .i64 m,.string s,.string u,.slice A0 n0 m0,.slice A1 n1 m1,.slice A2 n2 m2]])):=Lib.hid (by
     rw [HTk.out]
     refine ((HC2.out.keep hsa).snoc (HR2.out.keep hsa)).weaken fun y hy=>⟨hy.1.1,?_⟩
     rcases HAt.out with e | e
     ·rw [e];exact hy.1.2
     ·rw [e]
      intro e2
      have e3:=Option.some.inj e2
      have:=hy.2
      simp at e3
      omega)
    have HBx4:=Lib.hid (((HBxm.out.kept HW2.out (by simpa using hf3)).kept hal (by simp)).kept HGr.out (own_ne2 HO2.out hf2))
    have HSm4:=Lib.hid ((HSmm.out.trans (Same.of_grown hal (fun x _=>by simp))).trans (Same.of_grown HGr.out (fun x hx=>own_ne2 HO2.out hx.2.2)))
    go_roundw
    case rel=>exact ⟨0+1,A3,c3,_,by omega,.inr ⟨by omega,rfl⟩,rfl,Lib.hid (by rw [List.flatten_append];simpa using HO4.out),HC4,HP4,HG4,HSm4.out.1,HBx4,HSm4⟩
    case measure=>simp [slLen2];omega
  ·have hks:kk≠0:=by omega
   by_cases hkn:kk < n
   ·obtain ⟨t,ht,hts⟩:=HC.out kk h0 hkn
    obtain ⟨x,hx⟩:∃ x,x=L[kk]'(by rw [← HN.out];exact hkn):=⟨_,rfl⟩
    have HX:Hid (L[kk]?=some x):=Lib.hid (by rw [hx];exact List.getElem?_eq_getElem _)
    have HSk:=Lib.hid (skip_yes b g go c ts (hd kk) dp t ⟨#[59]⟩ wr hP.out ht hts hlen)
    clear hts ht hx
    go_wp2_with fail
    refine HSk.out.mono ?_
    rintro e w1 ⟨rfl,hw⟩
    have HP1:=Lib.hid hw.1
    have HO1:=Lib.hid (hO.out.kept hw.2 (own_apart2 hO.out hbl))
    have HC1:=Lib.hid (hC.out.keep (Same.of_grown hw.2 (fun x hx=>by have:=hx.1;simp;omega)))
    have HG1:=Lib.hid (grown_trans hG.out hw.2)
    have hzw1:w.heap.size≤w1.heap.size:=Nat.le_trans hzr hw.2.size
    have HBx1:=Lib.hid (hBx.out.kept hw.2 (by simpa using hf3))
    have HSm1:=Lib.hid (hSm.out.trans (Same.of_grown hw.2 (fun x hx=>by simpa using hx.1)))
    clear hw
    go_wp2_with fail
    have HLb:=Lib.hid (HL.out _ x HX.out)
    rw [if_neg hks] at HLb
    refine (HLb.out _ HG1.out HP1.out HBx1.out).mono ?_
    rintro e w2 (⟨wm,hgm,hbm,An,cn,k,m,s,u,A0,n0,m0,A1,n1,m1,A2,n2,m2,rfl,hnm,hcn,hr,hw⟩ | ⟨hF,nxF,hnF,rfl,dpF,hpF,hgF⟩)
    rotate_left
    ·exact ⟨rfl,.inr ⟨hF,nxF,hnF,rfl,dpF,hpF,hgF⟩⟩
    have hwm:w.heap.size≤wm.heap.size:=Nat.le_trans hzw1 hgm.size
    have HOm:=Lib.hid (HO1.out.kept hgm (own_apart2 HO1.out hf2))
    have HCm:=Lib.hid (HC1.out.keep (Same.of_grown hgm (fun x hx=>by have:=hx.1;simp;omega)))
    have HGm:=Lib.hid (grown_own2 HG1.out hgm (fun k hk=>by have:=Option.some.inj hk;omega))
    have HBxm:=Lib.hid hbm
    have HSmm:=Lib.hid ((HSm1.out.trans (Same.of_grown hgm (fun x hx=>by simpa using hx.2.1))).trans (Same.of_grown hw.2 (fun x hx=>by simpa using hx.1)))
    clear hgm hbm
    have HP2:=Lib.hid hw.1
    have HO2:=Lib.hid (HOm.out.kept hw.2 (own_apart2 HOm.out hbl))
    have HC2:=Lib.hid ((HCm.out.keep (Same.of_grown hw.2 (fun x hx=>by have:=hx.1;simp;omega))).tight)
    have HG2:=Lib.hid (grown_trans HGm.out hw.2)
    have HW2:=Lib.hid hw.2
    obtain ⟨⟨op,ns⟩,ex⟩:=x
    obtain ⟨NL,hNL⟩:∃ NL,NL=ns.length:=⟨_,rfl⟩
    obtain ⟨OP,hOP⟩:∃ OP,OP=strB op:=⟨_,rfl⟩
    have hokx:=HOk.out _ (List.mem_of_getElem? HX.out)
    have hres:∀ y,wm.heap.size≤y→w.heap.size≤y∧some y≠(Value.slice A' kk c').ownBlock:=fun y hy=>⟨by have:=hwm;omega,fun e=>by have:=(HOm.out.lt _ e.symm).2;omega⟩
    have HR2:Hid (ArmC (fun x=>(w.heap.size≤x∧some x≠(Value.slice A' kk c').ownBlock)∧x < w2.heap.size) w2 ((op,ns),ex) [.string OP,.slice An NL cn,.int .i64 k,.int .i64 m,.string s,.string u,.slice A0 n0 m0,.slice A1 n1 m1,.slice A2 n2 m2]):=Lib.hid (ArmC.weaken (ArmC.tight (P:=fun x=>wm.heap.size≤x) ⟨An,cn,[.int .i64 k,.int .i64 m,.string s,.string u,.slice A0 n0 m0,.slice A1 n1 m1,.slice A2 n2 m2],⟨hokx.1,hokx.2,hcn.1,hcn.2⟩,rfl,by rw [hOP,hNL],hnm,hr⟩) (fun y hy=>⟨hres y hy.1,hy.2⟩))
    rw [← hOP,← hNL]
    have hzw2:=HW2.out.size
    clear hr hw HLb hokx hnm hcn hres hNL hOP
    go_wp2_with (at_builtin;refine wpList_append_own_at _ rfl _ _ 25 rfl w.heap.size 57 i0 (.agg #[.string ⟨#[]⟩,.slice none 0 0,.int .i64 0,.int .i64 0,.string ⟨#[]⟩,.string ⟨#[]⟩,.slice none 0 0,.slice none 0 0,.slice none 0 0]) 9 160 Tryz.underlying25 hi hz0 hz1 hz2 rfl (by decide) _ _ _ rfl ((HO2.out.alloc _).alloc _) ⟨w2.heap.size+1,0,none⟩ 1 1 [.string OP,.slice An NL cn,.int .i64 k,.int .i64 m,.string s,.string u,.slice A0 n0 m0,.slice A1 n1 m1,.slice A2 n2 m2] rfl rfl (cell_am2 w2 _ _ _ _ _ _ _ _ _) (am_one _ _ _ _ _ _ _ _ _ _ _ _ _ _ _ _ _) (by unfold maxLen;omega) (by omega) (by simp;omega) ?_;intro v' w4 hown' hgrow _ hat;obtain ⟨A3,c3,rfl⟩:=own_slice hown';have HO4:=Lib.hid hown';have HGr:=Lib.hid hgrow;have HAt:=Lib.hid hat;clear hown' hgrow hat)
    have hal:w2.grownBy ((w2.alloc (.cells #[.string OP,.slice An NL cn,.int .i64 k,.int .i64 m,.string s,.string u,.slice A0 n0 m0,.slice A1 n1 m1,.slice A2 n2 m2] 57)).alloc (.cells #[.string OP,.slice An NL cn,.int .i64 k,.int .i64 m,.string s,.string u,.slice A0 n0 m0,.slice A1 n1 m1,.slice A2 n2 m2] 57)) none:=grown_trans (World.grownBy_alloc w2 _ none) (World.grownBy_alloc _ _ none)
    have HP4:=Lib.hid ((HP2.out.kept hal (by simp) (by simp)).kept HGr.out (own_ne2 HO2.out hbl) (own_ne2 HO2.out hgl))
    have HG4:=Lib.hid (grown_own2 (grown_trans HG2.out (grown_trans (World.grownBy_alloc w2 _ _) (World.grownBy_alloc _ _ _))) HGr.out (fun k hk=>Nat.le_trans hbz (own_from2 HO2.out hk)))
    have hsa:Same (fun x=>(w.heap.size≤x∧some x≠(Value.slice A' kk c').ownBlock)∧x < w2.heap.size) w2 w4:=(Same.of_grown hal (fun x hx=>by simp)).trans (Same.of_grown HGr.out (fun x hx=>hx.1.2))
    have HTk:Hid (L.take (kk+1)=L.take kk++[((op,ns),ex)]):=Lib.hid (by rw [List.take_add_one,HX.out];rfl)
    have HC4:Hid (CellsA (fun x=>w.heap.size≤x∧some x≠(Value.slice A3 (kk+1) c3).ownBlock) w4 (L.take (kk+1)) (cl++[[.string OP,.slice An NL cn,.int .i64 k,.int .i64 m,.string s,.string u,.slice A0 n0 m0,.slice A1 n1 m1,.slice A2 n2 m2]])):=Lib.hid (by
     rw [HTk.out]
     refine ((HC2.out.keep hsa).snoc (HR2.out.keep hsa)).weaken fun y hy=>⟨hy.1.1,?_⟩
     rcases HAt.out with e | e
     ·rw [e];exact hy.1.2
     ·rw [e]
      intro e2
      have e3:=Option.some.inj e2
      have:=hy.2
      simp at e3
      omega)
    have HBx4:=Lib.hid (((HBxm.out.kept HW2.out (by simpa using hf3)).kept hal (by simp)).kept HGr.out (own_ne2 HO2.out hf2))
    have HSm4:=Lib.hid ((HSmm.out.trans (Same.of_grown hal (fun x _=>by simp))).trans (Same.of_grown HGr.out (fun x hx=>own_ne2 HO2.out hx.2.2)))
    go_roundw
    case rel=>exact ⟨kk+1,A3,c3,_,by omega,.inr ⟨by omega,rfl⟩,rfl,Lib.hid (by rw [List.flatten_append];simpa using HO4.out),HC4,HP4,HG4,HSm4.out.1,HBx4,HSm4⟩
    case measure=>simp [slLen2];omega
   ·obtain rfl:kk=n:=by omega
    obtain ⟨t,ht,hts⟩:=HD.out
    have HSk:=Lib.hid (skip_no b g go c ts (hd kk) dp t ⟨#[59]⟩ wr hP.out ht (by rw [hts];decide))
    clear hts ht
    go_wp2_with fail
    refine HSk.out.mono ?_
    rintro e w1 ⟨rfl,hb⟩
    have HP1:=Lib.hid (hP.out.below hb)
    have HO1:=Lib.hid (hO.out.kept (grown_below hb none) (by cases (Value.slice A' kk c').ownBlock <;> simp))
    have HC1:=Lib.hid (hC.out.keep (Same.of_below hb))
    have HG1:=Lib.hid (grown_trans hG.out (grown_below hb _))
    clear hb
    go_wp2_with fail
    rw [Exit.noGoto_ret]
    go_ret
    refine .inl ?_
    have hcl:=HC1.out.weaken (Q:=fun x=>w.heap.size≤x) (fun x hx=>hx.1)
    rw [List.take_of_length_le (by rw [← HN.out];exact Nat.le_refl _)] at hcl
    obtain ⟨l1,l2,l3⟩:=hcl.list HN.out HO1.out
    exact ⟨A',c',by rw [← HN.out];rfl,fun hne=>by obtain ⟨y,off,e1,e2,e3,e4⟩:=l1 hne;exact ⟨y,off,e1,Nat.le_trans hbz e2,e3,e4.weaken (fun x hx=>Nat.le_trans hbz hx)⟩,by rw [← HN.out];exact ⟨l2,l3⟩,by rw [← HN.out];exact ⟨HP1.out,HG1.out⟩⟩
end Go.Proofs.YtpjabnemkmdobaaGreatDoor
namespace Go.Proofs.YtpjabnemkmdobaaGreatDoor
open Go.RowKit
section
variable {P:Program} {ops:Array Oper} {Q:Exit→Act→World→Prop} {S:World→Prop} {md:Region.Mode}
theorem takeG {i:Nat}{oi:Oper}{d:Tmp}{v:Value}{fuel:Nat}{listed:Array Bool}{T:Array Value}{D:List Deferred}{w:World}(hi:ops[i]?=some oi)(hd:oi.dst=some d)
  (hs:Region.noSelect ops=true) (hf:Region.free md ops listed i=true) (hr:(Region.ready md ops listed).contains i=true)
  (hQ:∀ c a w,Q (.panic c) (a.put oi.dst v) w→Q (.panic c) a w) (hy:YieldsIf P ops S oi v { tmps:=T,defers:=D }) (hS:S w)
  (h:wpAnyH P md ops Q S fuel (listed.setIfInBounds i true) { tmps:=T.setIfInBounds d v,defers:=D } w):wpAnyH P md ops Q S (fuel+1) listed { tmps:=T,defers:=D } w :=
 wpAnyH_take hi hs hf hr hQ hy hS (by rw [hd];exact h)
theorem stepG {i:Nat}{oi:Oper}{fuel:Nat}{listed:Array Bool}{a:Act}{w:World}(hr:Region.ready md ops listed=[i])(hi:ops[i]?=some oi)(hw:Region.wanted oi (yielded ops a.tmps)=true)
  (h:∀ K:Act→World→Prop,Shut (∀ a w,S w→wpAnyH P md ops Q S fuel (listed.setIfInBounds i true) a w→K a w)→Oper.wp P oi a w K Q):wpAnyH P md ops Q S (fuel+1) listed a w :=
 wpAnyH_ready hr (by simp) (AllReadyH.cons hi (fun K hK=>by rw [if_pos hw];exact h K (fun a w hs hx=>hK.out a w hs (fun _=>hx))) AllReadyH.nil)
theorem stepG2 {i j:Nat}{oi oj:Oper}{fuel:Nat}{listed:Array Bool}{a:Act}{w:World}(hr:Region.ready md ops listed=[i,j])(hi:ops[i]?=some oi)(hj:ops[j]?=some oj)(hwi:Region.wanted oi (yielded ops a.tmps)=true)(hwj:Region.wanted oj (yielded ops a.tmps)=true)
  (h1:∀ K:Act→World→Prop,Shut (∀ a w,S w→wpAnyH P md ops Q S fuel (listed.setIfInBounds i true) a w→K a w)→Oper.wp P oi a w K Q)
  (h2:∀ K:Act→World→Prop,Shut (∀ a w,S w→wpAnyH P md ops Q S fuel (listed.setIfInBounds j true) a w→K a w)→Oper.wp P oj a w K Q):wpAnyH P md ops Q S (fuel+1) listed a w :=
 wpAnyH_ready hr (by simp) (AllReadyH.cons hi (fun K hK=>by rw [if_pos hwi];exact h1 K (fun a w hs hx=>hK.out a w hs (fun _=>hx)))
  (AllReadyH.cons hj (fun K hK=>by rw [if_pos hwj];exact h2 K (fun a w hs hx=>hK.out a w hs (fun _=>hx))) AllReadyH.nil))
end
end Go.Proofs.YtpjabnemkmdobaaGreatDoor
