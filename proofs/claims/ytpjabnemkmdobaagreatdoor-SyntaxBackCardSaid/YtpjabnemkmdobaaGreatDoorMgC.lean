/- Texts put together by program: PrT PrC PrD PrE PrF PrG Parts PrH PrI PrJ PrK ParsO PrL. -/
import Derived.Test.YtpjabnemkmdobaaGreatDoorMgB
import Derived.Maps.Own
import Derived.MapKept
import Derived.ProofKit
import Derived.Test.YtpjabnemkmdobaaGreatDoorMgA
namespace Go.Proofs.YtpjabnemkmdobaaGreatDoor
open Go.RowKit
def lvO (k:Int)(s:Txt):Int:=if k=9 then (opLv s).getD 0 else if k=4∨k=6∨k=7∨k=8∨k=17 then 0 else if k=5∨k=12∨k=13∨k=16∨k=18∨k=19 then 4 else 5
abbrev LvP:=Int × List Txt
def atP (asked:Int)(q:LvP):List Txt:=if asked≤q.1 then q.2 else [[40]]++(q.2++[[41]])
def behindP:List LvP→List Txt→List Txt
 | q :: r,t :: ts=>[t]++(atP 0 q++behindP r ts)
 | _,_=>[]
def spacedP (ns:List Txt):List Txt:=ns.flatMap fun x=>[[32],x]
def listP (sep:Txt):List (List Txt)→List Txt
 | []=>[]
 | x :: r=>x++r.flatMap fun y=>[sep]++y
def armP (o:Txt × List Txt)(q:LvP):List Txt:=[o.1]++(spacedP o.2++([[32,45,62,32]]++atP 0 q))
def bracesP (ops:List (Txt × List Txt))(bs:List LvP):List Txt:=[[123,32]]++(listP [59,32] (List.zipWith armP ops bs)++((if bs.length=0 then [] else [[32]])++[[125]]))
def bracedP (pieces:List Txt)(q:LvP)(ops:List (Txt × List Txt))(bs:List LvP):List Txt:=pieces++([[32]]++(atP 0 q++([[32]]++bracesP ops bs)))
def callP (pieces:List Txt)(q:LvP):List Txt:=pieces++([[32]]++atP 5 q)
def openP (kw:Txt)(ns:List Txt)(l:List LvP)(ts:List Txt):List Txt:=[kw]++(spacedP ns++behindP l ts)
def operandLv (l:Int):Int:=if l=1 then 2 else l
def nth (l:List LvP)(i:Nat):LvP:=l.getD i (0,[])
def nodeP (k n:Int)(s t:Txt)(ns:List Txt)(l:List LvP)(ops:List (Txt × List Txt))(bs:List LvP):List Txt :=
 match k.toNat with
 | 0=>[s]
 | 1=>if n < 0 then [[40],Lib.itoa n,[41]] else [Lib.itoa n]
 | 2=>if n=0 then [[102,97,108,115,101]] else [[116,114,117,101]]
 | 3=>[[40,41]]
 | 4=>openP [102,117,110] ns l [[32,45,62,32]]
 | 5=>atP 4 (nth l 0)++([[32]]++atP 5 (nth l 1))
 | 6=>openP [108,101,116] ns l [[32,61,32],[32,105,110,32]]
 | 7=>openP [114,101,99] ns l [[32,61,32],[32,105,110,32]]
 | 8=>behindP l [[105,102,32],[32,116,104,101,110,32],[32,101,108,115,101,32]]
 | 9=>atP (operandLv ((opLv s).getD 0)) (nth l 0)++([[32],s,[32]]++atP ((opLv s).getD 0+1) (nth l 1))
 | 10=>[s]++(if l.length=0 then [] else [[91]]++(listP [44,32] (l.map (atP 0))++[[93]]))
 | 11=>bracedP [[109,97,116,99,104]] (nth l 0) ops bs
 | 12=>callP [[100,111,32],s] (nth l 0)
 | 13=>callP [s,[46],t] (nth l 0)
 | 14=>bracedP [if n=1 then [115,104,97,108,108,111,119,32] else [104,97,110,100,108,101,32],s] (nth l 0) ops bs
 | 15=>bracedP [[110,97,109,101,100,32],ns.getD 0 [],[32],s] (nth l 0) ops bs
 | 16=>callP [[109,97,115,107,32],s] (nth l 0)
 | 17=>[[117,115,105,110,103,32],ns.getD 0 [],[32,91],Lib.join (ns.drop 1) [44,32],[93]]++behindP l [[32,61,32],[32,99,108,111,115,101,32],[32,105,110,32]]
 | 18=>callP [[114,101,115,117,109,101,32],s] (nth l 0)
 | _=>[[100,114,111,112,32],s]
def Ex.lv (e:Ex):Int:=lvO e.k e.s
mutual
def pcs:Ex→List Txt
 | .mk k n s t ns l ops bs=>nodeP k n s t ns (pcsL l) ops (pcsL bs)
def pcsL:List Ex→List LvP
 | []=>[]
 | e :: r=>(e.lv,pcs e) :: pcsL r
end
def Ex.lp (e:Ex):LvP:=(e.lv,pcs e)
theorem pcsL_map:∀ l,pcsL l=l.map Ex.lp
 | []=>by simp [pcsL]
 | e :: r=>by rw [pcsL,pcsL_map r];rfl
theorem pcs_mk (k n:Int)(s t:Txt)(ns:List Txt)(l:List Ex)(ops:List (Txt × List Txt))(bs:List Ex):pcs (.mk k n s t ns l ops bs)=nodeP k n s t ns (l.map Ex.lp) ops (bs.map Ex.lp):=by
 rw [pcs,pcsL_map,pcsL_map]
def textE (e:Ex):Txt:=(pcs e).flatten
end Go.Proofs.YtpjabnemkmdobaaGreatDoor
namespace Go.Proofs.YtpjabnemkmdobaaGreatDoor
open Go.RowKit Go.Maps
theorem kindKey:Tryz.prog.underlying 22=some (.int .i64):=Tryz.underlying22
def RM (W0 w:World)(p x m:Nat)(ks:List Nat):Prop :=
 w.heap[m]?=some (.map (ruleEs p x ks).toArray ks.length)∧(∀ b,b≠m→w.heap[b]?=W0.heap[b]?)∧w.heap.size=W0.heap.size∧w.os=W0.os∧w.tape=W0.tape∧w.output=W0.output
theorem RM.cell {W0 w:World}{p x m:Nat}{ks:List Nat}(h:RM W0 w p x m ks){b:Nat}(hb:b≠m)(o:Nat):w.cell? ⟨b,o,none⟩=W0.cell? ⟨b,o,none⟩:=by
 unfold World.cell?
 simp only [h.2.1 b hb]
theorem RM.frozen {W0 w:World}{p x m:Nat}{ks:List Nat}(h:RM W0 w p x m ks){b:Nat}(hb:b≠m)(o:Nat):w.frozen? ⟨b,o,none⟩=W0.frozen? ⟨b,o,none⟩:=by
 unfold World.frozen?
 simp only [h.2.1 b hb]
theorem ruleEs_snoc (p x:Nat)(ks:List Nat)(k:Nat):ruleEs p x (ks++[k])=ruleEs p x ks++[{ key:=.int .i64 k,val:=ruleV p x k,born:=ks.length }]:=by
 unfold ruleEs
 rw [List.zipIdx_append,List.map_append]
 simp
theorem findNow_rule (p x k:Nat)(ks:List Nat):∀ (j i:Nat),k ∉ ks→Instr.findNow (.int .i64) (.int .i64 (k:Int)) ((ks.zipIdx j).map fun kj=>{ key:=.int .i64 (kj.1:Int),val:=ruleV p x kj.1,born:=kj.2 }) i=some none:=by
 induction ks with
 | nil=>intro j i _;rfl
 | cons a r ih =>
  intro j i h
  have h1:k≠a:=fun e=>h (by simp [e])
  have h2:k ∉ r:=fun e=>h (by simp [e])
  have h3:((k:Int) == (a:Int))=false:=beq_eq_false_iff_ne.2 (fun e=>h1 (Int.ofNat.inj e))
  simp only [List.zipIdx_cons,List.map_cons,Instr.findNow,Instr.sameNow,if_true,h3]
  exact ih (j+1) (i+1) h2
set_option maxRecDepth 100000 in
theorem wpList_insert_rule {W0:World}(w:World){ops:Array Oper}{rest:List Oper}{o:Oper}{a:Act}{Q:Exit→Act→World→Prop}{p x m:Nat}{ks:List Nat}
  (hg:o.guard=none) (om ox ov:Operand) (hop:o.op=Op.insert 48 om ox ov) (hm:a.eval om=.map (some m)) (hown:RM W0 w p x m ks)
  (kz:Int) (k:Nat) (hkz:kz.toNat=k) (hk0:0≤kz) (hk:k ∉ ks) (hx:a.eval ox=.int .i64 kz) (hv:a.eval ov=ruleV p x k)
  (hK:∀ w',RM W0 w' p x m (ks++[k])→wpList Tryz.prog ops Q rest (a.put o.dst undef) w'):wpList Tryz.prog ops Q (o :: rest) a w:=by
 refine wpList_plain hg fun K' hK'=>?_
 obtain rfl:kz=(k:Int):=by omega
 obtain ⟨h1,h2,h3,h4⟩:=hown
 have hlt:m < w.heap.size:=(Array.getElem?_eq_some_iff.1 h1).1
 have hfn:Instr.findNow (.int .i64) (.int .i64 (k:Int)) (ruleEs p x ks).toArray.toList 0=some none:=findNow_rule p x k ks 0 0 hk
 have hrun:(Instr.mapUpdate 48 (.map (some m)) (.int .i64 (k:Int)) (ruleV p x k)).run Tryz.prog w=.ok () { w with heap:=w.heap.setIfInBounds m (.map ((ruleEs p x ks).toArray.push ⟨.int .i64 k,ruleV p x k,ks.length⟩) (ks.length+1)) }:=by
  simp [Instr.mapUpdate,run_underlying Tryz.underlying48,MapKept.run_getObj_map h1,MapKept.run_checkKey (k:=.int .i64 (k:Int)) kindKey (by simp [MapKept.IsKey]),MapKept.run_findKey kindKey hfn,MapKept.run_setObj_map _ h1,Result.andThen]
 unfold Oper.wp
 simp [execOp,hop,hm,hx,hv,hrun,Result.andThen]
 refine hK' _ _ (hK _ ⟨?_,fun b hb=>?_,by simp [h3],h4⟩)
 ·rw [ruleEs_snoc]
  simp [hlt]
 ·rw [← h2 b hb]
  simp [Ne.symm hb]
def PrNew (w:World)(lim:Int)(e:Ending)(w':World):Prop:=e=.returned (.pointer (some ⟨w.heap.size,0,none⟩))∧Pr w.heap.size w.heap.size (w.heap.size+1) (w.heap.size+1+1) lim [] w'∧Below w.heap.size w w'
set_option maxRecDepth 100000 in
set_option maxHeartbeats 4000000 in
theorem newPrinter_any (lim:Int)(w:World)(hT:Tab w):Calls Tryz.prog 14 #[.int .i64 lim] w (PrNew w lim):=by
 have hmm:=@run_makeMap Tryz.prog
 have HT:=Lib.hid hT
 clear hT
 have hmade:RM (((w.alloc (.cells #[.pointer none,.slice none 0 0,.int .i64 lim,.map none] 50)).alloc (.cells #[.pointer (some ⟨w.heap.size,0,none⟩)] 39)).alloc (.map #[] 0)) (((w.alloc (.cells #[.pointer none,.slice none 0 0,.int .i64 lim,.map none] 50)).alloc (.cells #[.pointer (some ⟨w.heap.size,0,none⟩)] 39)).alloc (.map #[] 0)) w.heap.size (w.heap.size+1) (w.heap.size+1+1) []:=by
  refine ⟨?_,fun _ _=>rfl,rfl,rfl,rfl,rfl⟩
  have:=heap_alloc_new ((w.alloc (.cells #[.pointer none,.slice none 0 0,.int .i64 lim,.map none] 50)).alloc (.cells #[.pointer (some ⟨w.heap.size,0,none⟩)] 39)) (.map #[] 0)
  rw [World.size_alloc,World.size_alloc] at this
  exact this
 obtain ⟨W0,hW0⟩:∃ W0,((w.alloc (.cells #[.pointer none,.slice none 0 0,.int .i64 lim,.map none] 50)).alloc (.cells #[.pointer (some ⟨w.heap.size,0,none⟩)] 39)).alloc (.map #[] 0)=W0:=⟨_,rfl⟩
 rw [hW0] at hmade
 have HP0:Hid (W0.heap[w.heap.size]?=some (.cells #[.pointer none,.slice none 0 0,.int .i64 lim,.map none] 50 (0,0))):=Lib.hid (by
  rw [← hW0,Lib.alloc_old _ _ _ (by simp;omega),Lib.alloc_old _ _ _ (by simp)]
  exact heap_alloc_new w _)
 have HX0:Hid (W0.heap[w.heap.size+1]?=some (.cells #[.pointer (some ⟨w.heap.size,0,none⟩)] 39 (0,0))):=Lib.hid (by
  rw [← hW0,Lib.alloc_old _ _ _ (by simp)]
  have:=heap_alloc_new (w.alloc (.cells #[.pointer none,.slice none 0 0,.int .i64 lim,.map none] 50)) (.cells #[.pointer (some ⟨w.heap.size,0,none⟩)] 39)
  rwa [World.size_alloc] at this)
 have HB0:Hid (Below w.heap.size w W0):=Lib.hid (by rw [← hW0];exact (((Below.refl _ _).alloc (Nat.le_refl _) _).alloc (by simp) _).alloc (by simp;omega) _)
 have hcx:W0.cell? ⟨w.heap.size+1,0,none⟩=some (.pointer (some ⟨w.heap.size,0,none⟩)):=cell_of_row W0 _ 0 _ _ (0,0) HX0.out
 go_enter Tryz.func14,Tryz.ntmps14
 go_wp2_with (refine wpList_insert_rule _ rfl _ _ _ rfl rfl hmade _ _ rfl (by decide) (by decide) rfl rfl ?_;clear hmade hcx;intro w1 hmade;have hcx:=(hmade.cell (show w.heap.size+1≠w.heap.size+1+1 by omega) 0).trans (cell_of_row W0 _ 0 _ _ (0,0) HX0.out);have hcp:=(hmade.cell (show w.heap.size≠w.heap.size+1+1 by omega) 3).trans (cell_of_row W0 _ 3 _ _ (0,0) HP0.out);have hfp:=(hmade.frozen (show w.heap.size≠w.heap.size+1+1 by omega) 3).trans (show W0.frozen? ⟨w.heap.size,3,none⟩=false by simp [World.frozen?,HP0.out]))
 go_ret
 have hp:=(hmade.2.1 w.heap.size (by omega)).trans HP0.out
 have hx:=(hmade.2.1 (w.heap.size+1) (by omega)).trans HX0.out
 have hs:∀ b,b≠w.heap.size→(w1.setCell ⟨w.heap.size,3,none⟩ (.map (some (w.heap.size+1+1)))).heap[b]?=w1.heap[b]?:=fun b hb=>Below.heap_setCell _ _ _ _ (fun e=>hb (show b=w.heap.size from (show w.heap.size=b from by first | exact e | exact e.symm).symm))
 refine ⟨rfl,⟨Nat.le_refl _,by omega,by omega,⟨none,.slice none 0 0,.inl rfl,heap_set hp,⟨rfl,.inl ⟨rfl,rfl⟩⟩,by simp [Value.ownBlock]⟩,(hs _ (by omega)).trans hx,⟨_,(hs _ (by omega)).trans hmade.1⟩,?_,?_⟩,?_⟩
 rotate_left 2
 all_goals have hb1:Below w.heap.size w w1:=⟨hmade.2.2.2.1.trans HB0.out.os,hmade.2.2.2.2.1.trans HB0.out.tape,hmade.2.2.2.2.2.trans HB0.out.output,by rw [hmade.2.2.1];exact HB0.out.size,fun b hb=>(hmade.2.1 b (by omega)).trans (HB0.out.block b hb)⟩
 ·exact hb1.setCell (p:=⟨w.heap.size,3,none⟩) (Nat.le_refl _) _
 ·obtain ⟨t,fr,ht⟩:=HT.out
  exact ⟨t,fr,((hb1.setCell (p:=⟨w.heap.size,3,none⟩) (Nat.le_refl _) _).block _ (Array.getElem?_eq_some_iff.1 ht).1).trans ht⟩
 ·obtain ⟨t,fr,ht⟩:=HT.out
  exact (Array.getElem?_eq_some_iff.1 ht).1
end Go.Proofs.YtpjabnemkmdobaaGreatDoor
namespace Go.Proofs.YtpjabnemkmdobaaGreatDoor
open Go.RowKit
set_option maxRecDepth 100000 in
set_option maxHeartbeats 2000000 in
theorem levelOf_any (k:Int)(v1:Value)(s:Txt)(v3 v4 v5 v6:Value)(w:World) :
  Calls Tryz.prog 49 #[.agg #[.int .i64 k,v1,.string (strB s),v3,v4,v5,v6]] w fun e w'=>e=.returned (.int .i64 (lvO k s))∧Below w.heap.size w w':=by
 have HB:=Lib.hid ((Below.refl w.heap.size w).alloc (Nat.le_refl _) (.cells #[.int .i64 k,v1,.string (strB s),v3,v4,v5,v6] 27))
 have HO:=Lib.hid (fun w=>opLevel_any s w)
 obtain ⟨r,hr⟩:∃ r,r=lvO k s:=⟨_,rfl⟩
 rw [← hr]
 by_cases hk:k=4∨k=5∨k=6∨k=7∨k=8∨k=9∨k=12∨k=13∨k=16∨k=17∨k=18∨k=19
 ·rcases hk with rfl | rfl | rfl | rfl | rfl | rfl | rfl | rfl | rfl | rfl | rfl | rfl
  case inr.inr.inr.inr.inr.inl =>
   cases ho:opLv s with
   | none =>
    have HR:Hid (r=0):=Lib.hid (by rw [hr];unfold lvO;rw [if_pos rfl,ho];rfl)
    have HO2:Hid (∀ w,Calls Tryz.prog 71 #[.string (strB s)] w fun e w'=>e=.returned (.tuple #[.int .i64 0,.bool false])∧w=w'):=Lib.hid (fun w=>(HO.out w).mono fun e w' h=>⟨by rw [h.1,ho];rfl,h.2⟩)
    clear hr ho HO
    go_enter Tryz.func49,Tryz.ntmps49
    go_wp2_with fail
    refine (HO2.out _).mono ?_
    rintro e w' ⟨rfl,rfl⟩
    go_wp2_with fail
    go_ret
    exact ⟨by rw [HR.out];rfl,HB.out⟩
   | some m =>
    have HR:Hid (r=m):=Lib.hid (by rw [hr];unfold lvO;rw [if_pos rfl,ho];rfl)
    have HO2:Hid (∀ w,Calls Tryz.prog 71 #[.string (strB s)] w fun e w'=>e=.returned (.tuple #[.int .i64 m,.bool true])∧w=w'):=Lib.hid (fun w=>(HO.out w).mono fun e w' h=>⟨by rw [h.1,ho];rfl,h.2⟩)
    clear hr ho HO
    go_enter Tryz.func49,Tryz.ntmps49
    go_wp2_with fail
    refine (HO2.out _).mono ?_
    rintro e w' ⟨rfl,rfl⟩
    go_wp2_with fail
    go_ret
    exact ⟨by rw [HR.out];rfl,HB.out⟩
  all_goals
   have HR:=Lib.hid (show r=_ from hr.trans (by unfold lvO;simp;rfl))
   clear hr HO
   go_enter Tryz.func49,Tryz.ntmps49
   go_wp2_with fail
   go_ret
   exact ⟨by rw [HR.out];rfl,HB.out⟩
 ·have HR:Hid (r=5):=Lib.hid (by rw [hr];unfold lvO;rw [if_neg (by omega),if_neg (by omega),if_neg (by omega)])
  have k4:(k == 4)=false:=by simp;omega
  have k5:(k == 5)=false:=by simp;omega
  have k6:(k == 6)=false:=by simp;omega
  have k7:(k == 7)=false:=by simp;omega
  have k8:(k == 8)=false:=by simp;omega
  have k9:(k == 9)=false:=by simp;omega
  have k12:(k == 12)=false:=by simp;omega
  have k13:(k == 13)=false:=by simp;omega
  have k16:(k == 16)=false:=by simp;omega
  have k17:(k == 17)=false:=by simp;omega
  have k18:(k == 18)=false:=by simp;omega
  have k19:(k == 19)=false:=by simp;omega
  clear hr hk HO
  go_enter Tryz.func49,Tryz.ntmps49
  go_wp2_with fail
  go_ret
  exact ⟨by rw [HR.out];rfl,HB.out⟩
theorem findNow_at (p x:Nat)(kn:Nat)(hk:kn < 20):∃ i,Instr.findNow (.int .i64) (.int .i64 (kn:Int)) (ruleEs p x ruleKs).toArray.toList 0=some (some (i,ruleV p x kn)):=by
 obtain rfl | rfl | rfl | rfl | rfl | rfl | rfl | rfl | rfl | rfl | rfl | rfl | rfl | rfl | rfl | rfl | rfl | rfl | rfl | rfl:kn=0∨kn=1∨kn=2∨kn=3∨kn=4∨kn=5∨kn=6∨kn=7∨kn=8∨kn=9∨kn=10∨kn=11∨kn=12∨kn=13∨kn=14∨kn=15∨kn=16∨kn=17∨kn=18∨kn=19:=by omega
 all_goals exact ⟨_,rfl⟩
theorem lookup_rule {B p x m:Nat}{lim:Int}{bs:Txt}{w:World}(h:Pr B p x m lim bs w)(kn:Nat)(hk:kn < 20):(Instr.lookup 48 (.map (some m)) (.int .i64 (kn:Int)) false).run Tryz.prog w=.ok (ruleV p x kn) w:=by
 obtain ⟨_,_,_,_,_,⟨born,hm⟩,_⟩:=h
 obtain ⟨i,hi⟩:=findNow_at p x kn hk
 simp [Instr.lookup,run_underlying Tryz.underlying48,MapKept.run_getObj_map hm,MapKept.run_checkKey (k:=.int .i64 (kn:Int)) kindKey (by simp [MapKept.IsKey]),MapKept.run_findKey kindKey hi,Result.andThen]
def PrPost (B p x m:Nat)(lim:Int)(bs:Txt)(ps:List Txt)(w:World)(e:Ending)(w':World):Prop:=e=.returned (.tuple #[])∧PrF B p x m lim (wrs lim bs ps) w w'
def cs7 (k n:Int)(s t:Txt)(A0:Option Addr)(n0 c0:Nat)(A1:Option Addr)(n1 c1:Nat)(A2:Option Addr)(n2 c2:Nat):List Value:=[.int .i64 k,.int .i64 n,.string (strB s),.string (strB t),.slice A0 n0 c0,.slice A1 n1 c1,.slice A2 n2 c2]
def ExprSays (e:Ex):Prop:=∀ (B p x m:Nat) (lim:Int) (bs:Txt) (asked:Int) (cs:List Value) (w:World),Pr B p x m lim bs w→RepE (fun b=>b < B) w e cs→bs.length+tot (atP asked e.lp)≤140737488355328 →
 Calls Tryz.prog 15 #[.pointer (some ⟨p,0,none⟩),.agg cs.toArray,.int .i64 asked] w (PrPost B p x m lim bs (atP asked e.lp) w)
def RuleSays (e:Ex):Prop:=∀ (B p x m:Nat) (lim:Int) (bs:Txt) (cs:List Value) (w:World),Pr B p x m lim bs w→RepE (fun b=>b < B) w e cs→bs.length+tot (pcs e)≤140737488355328 →
 Calls Tryz.prog (ruleFn e.k.toNat) (if ruleB e.k.toNat=true then #[.pointer (some ⟨p,0,none⟩),.agg cs.toArray] else #[.agg cs.toArray,.pointer (some ⟨x,0,none⟩)]) w (PrPost B p x m lim bs (pcs e) w)
theorem rule_enters (kn:Nat)(hk:kn < 20):∀ args w,(callFunc (ruleFn kn) args).run Tryz.prog w=.ok (.enter (ruleFn kn) args) w:=by
 obtain rfl | rfl | rfl | rfl | rfl | rfl | rfl | rfl | rfl | rfl | rfl | rfl | rfl | rfl | rfl | rfl | rfl | rfl | rfl | rfl:kn=0∨kn=1∨kn=2∨kn=3∨kn=4∨kn=5∨kn=6∨kn=7∨kn=8∨kn=9∨kn=10∨kn=11∨kn=12∨kn=13∨kn=14∨kn=15∨kn=16∨kn=17∨kn=18∨kn=19:=by omega
 ·exact enters_of Tryz.func24 (by kernel_rfl) rfl
 ·exact enters_of Tryz.func26 (by kernel_rfl) rfl
 ·exact enters_of Tryz.func27 (by kernel_rfl) rfl
 ·exact enters_of Tryz.func28 (by kernel_rfl) rfl
 ·exact enters_of Tryz.func29 (by kernel_rfl) rfl
 ·exact enters_of Tryz.func37 (by kernel_rfl) rfl
 ·exact enters_of Tryz.func31 (by kernel_rfl) rfl
 ·exact enters_of Tryz.func32 (by kernel_rfl) rfl
 ·exact enters_of Tryz.func33 (by kernel_rfl) rfl
 ·exact enters_of Tryz.func36 (by kernel_rfl) rfl
 ·exact enters_of Tryz.func44 (by kernel_rfl) rfl
 ·exact enters_of Tryz.func45 (by kernel_rfl) rfl
 ·exact enters_of Tryz.func38 (by kernel_rfl) rfl
 ·exact enters_of Tryz.func40 (by kernel_rfl) rfl
 ·exact enters_of Tryz.func47 (by kernel_rfl) rfl
 ·exact enters_of Tryz.func48 (by kernel_rfl) rfl
 ·exact enters_of Tryz.func41 (by kernel_rfl) rfl
 ·exact enters_of Tryz.func35 (by kernel_rfl) rfl
 ·exact enters_of Tryz.func42 (by kernel_rfl) rfl
 ·exact enters_of Tryz.func43 (by kernel_rfl) rfl
theorem ruleV_t {p x k:Nat}(h:ruleB k=true):ruleV p x k=.func (.func (ruleFn k)) #[.pointer (some ⟨p,0,none⟩)] #[]:=by unfold ruleV;rw [if_pos h]
theorem ruleV_f {p x k:Nat}(h:ruleB k=false):ruleV p x k=.func (.func (ruleFn k)) #[] #[.pointer (some ⟨x,0,none⟩)]:=by unfold ruleV;rw [if_neg (by rw [h];simp)]
theorem FrP.of_below {B p:Nat}{w w':World}(hB:B≤w.heap.size)(h:Below w.heap.size w w'):FrP B p w w':=⟨h.mono hB,fun k _ hk _ _=>(h.block k (Array.getElem?_eq_some_iff.1 hk).1).trans hk,h.size⟩
theorem Pr.below {B p x m:Nat}{lim:Int}{bs:Txt}{w w':World}(h:Pr B p x m lim bs w)(hb:Below w.heap.size w w'):Pr B p x m lim bs w':=by
 have hp:=h
 obtain ⟨h1,h2,h3,⟨a,v,ha,hh,hv,hne⟩,hx,⟨born,hm⟩,⟨t,fr,ht⟩,hg⟩:=h
 have k:∀ {i:Nat} {o:Obj},w.heap[i]?=some o→w'.heap[i]?=some o:=fun {i o} e=>(hb.block i (Array.getElem?_eq_some_iff.1 e).1).trans e
 exact ⟨h1,h2,h3,⟨a,v,ha,k hh,hv.kept (grown_below hb none) (by cases v.ownBlock <;> simp),hne⟩,k hx,⟨born,k hm⟩,⟨t,fr,k ht⟩,hg⟩
theorem PrF.below {B p x m:Nat}{lim:Int}{bs:Txt}{w0 w w':World}(h:PrF B p x m lim bs w0 w)(hb:Below w.heap.size w w'):PrF B p x m lim bs w0 w' :=
 ⟨h.1.below hb,h.2.trans (FrP.of_below (Nat.le_trans h.1.1 (Nat.le_of_lt h.1.ltp)) hb)⟩
theorem PrF.refl {B p x m:Nat}{lim:Int}{bs:Txt}{w:World}(h:Pr B p x m lim bs w):PrF B p x m lim bs w w:=⟨h,FrP.refl _ _ _⟩
theorem PrF.then {B p x m:Nat}{lim:Int}{bs bs':Txt}{w0 w w':World}(h:PrF B p x m lim bs w0 w)(k:PrF B p x m lim bs' w w'):PrF B p x m lim bs' w0 w':=⟨k.1,h.2.trans k.2⟩
theorem Pr.c3 {B p x m:Nat}{lim:Int}{bs:Txt}{w:World}(h:Pr B p x m lim bs w):w.cell? ⟨p,3,none⟩=some (.map (some m)):=by
 obtain ⟨_,_,_,⟨a,v,_,hh,_⟩,_⟩:=h
 exact cell_of_row w p 3 _ _ (0,0) hh
theorem EB.fr' {B p:Nat}{w w':World}{g:Nat}{v0 v1 v2 v3 v4 v5 v6:Value}(h:EB w g v0 v1 v2 v3 v4 v5 v6)(hf:FrP B p w w')(hne:g≠p):EB w' g v0 v1 v2 v3 v4 v5 v6:=hf.blk h (by decide) hne
def ExS (B p x m:Nat)(lim:Int)(bs:Txt)(w0:World)(g:Nat)(v0 v1 v2 v3 v4 v5 v6:Value)(w:World):Prop:=PrF B p x m lim bs w0 w∧EB w g v0 v1 v2 v3 v4 v5 v6
theorem ExS.drew {B p x m:Nat}{lim:Int}{bs:Txt}{w0 w:World}{g:Nat}{v0 v1 v2 v3 v4 v5 v6:Value}(h:ExS B p x m lim bs w0 g v0 v1 v2 v3 v4 v5 v6 w):ExS B p x m lim bs w0 g v0 v1 v2 v3 v4 v5 v6 w.drew:=⟨h.1.drew,h.2⟩
theorem ExS.all {B p x m:Nat}{lim:Int}{bs:Txt}{w0 w:World}{g:Nat}{kn:Nat}{v1 v2 v3 v4 v5 v6:Value}(hk:kn < 20)(h:ExS B p x m lim bs w0 g (.int .i64 (kn:Int)) v1 v2 v3 v4 v5 v6 w) :
  w.cell? ⟨p,3,none⟩=some (.map (some m))∧w.cell? ⟨g,0,none⟩=some (.int .i64 (kn:Int))∧w.cell? ⟨g,1,none⟩=some v1∧w.cell? ⟨g,2,none⟩=some v2∧w.cell? ⟨g,3,none⟩=some v3∧w.cell? ⟨g,4,none⟩=some v4∧w.cell? ⟨g,5,none⟩=some v5∧w.cell? ⟨g,6,none⟩=some v6 ∧
   (Instr.lookup 48 (.map (some m)) (.int .i64 (kn:Int)) false).run Tryz.prog w=.ok (ruleV p x kn) w∧ExS B p x m lim bs w0 g (.int .i64 (kn:Int)) v1 v2 v3 v4 v5 v6 w :=
 ⟨h.1.1.c3,h.2.c0,h.2.c1,h.2.c2,h.2.c3,h.2.c4,h.2.c5,h.2.c6,lookup_rule h.1.1 kn hk,h⟩
end Go.Proofs.YtpjabnemkmdobaaGreatDoor
namespace Go.Proofs.YtpjabnemkmdobaaGreatDoor
open Go.RowKit
def ExSx (B p x m:Nat)(lim:Int)(w0:World)(g:Nat)(v0 v1 v2 v3 v4 v5 v6:Value)(w:World):Prop:=∃ bs,ExS B p x m lim bs w0 g v0 v1 v2 v3 v4 v5 v6 w
section
variable {B p x m:Nat} {lim:Int} {bs bs':Txt} {w0 w w':World} {g kn:Nat} {v0 v1 v2 v3 v4 v5 v6:Value}
theorem ExS.toX (h:ExS B p x m lim bs w0 g v0 v1 v2 v3 v4 v5 v6 w):ExSx B p x m lim w0 g v0 v1 v2 v3 v4 v5 v6 w:=⟨bs,h⟩
theorem ExS.call (h:ExS B p x m lim bs w0 g v0 v1 v2 v3 v4 v5 v6 w)(hne:g≠p)(hp:PrF B p x m lim bs' w w'):ExS B p x m lim bs' w0 g v0 v1 v2 v3 v4 v5 v6 w':=⟨h.1.then hp,h.2.fr' hp.2 hne⟩
theorem ExSx.all (hk:kn < 20)(h:ExSx B p x m lim w0 g (.int .i64 (kn:Int)) v1 v2 v3 v4 v5 v6 w) :
  w.cell? ⟨p,3,none⟩=some (.map (some m))∧w.cell? ⟨g,0,none⟩=some (.int .i64 (kn:Int))∧w.cell? ⟨g,1,none⟩=some v1∧w.cell? ⟨g,2,none⟩=some v2∧w.cell? ⟨g,3,none⟩=some v3∧w.cell? ⟨g,4,none⟩=some v4∧w.cell? ⟨g,5,none⟩=some v5∧w.cell? ⟨g,6,none⟩=some v6 ∧
   (Instr.lookup 48 (.map (some m)) (.int .i64 (kn:Int)) false).run Tryz.prog w=.ok (ruleV p x kn) w∧ExSx B p x m lim w0 g (.int .i64 (kn:Int)) v1 v2 v3 v4 v5 v6 w:=by
 obtain ⟨bs,h⟩:=h
 obtain ⟨a1,a2,a3,a4,a5,a6,a7,a8,a9,a10⟩:=h.all hk
 exact ⟨a1,a2,a3,a4,a5,a6,a7,a8,a9,bs,a10⟩
end
theorem write_new {B p x m:Nat}{lim:Int}{bs:Txt}{w0:World}(ps:List Txt)(w:World)(h:PrF B p x m lim bs w0 w)(hn:ps.length≤1000000)(hlen:bs.length+tot ps≤140737488355328) :
  Calls Tryz.prog 25 #[.pointer (some ⟨p,0,none⟩),.slice (some ⟨w.heap.size,0,none⟩) ps.length ps.length] (w.alloc (.cells (ps.map fun s=>Value.string (strB s)).toArray 9)) fun e w'=>e=.returned (.tuple #[])∧PrF B p x m lim (wrs lim bs ps) w0 w'∧FrP B p w w':=by
 have hb:Below w.heap.size w (w.alloc (.cells (ps.map fun s=>Value.string (strB s)).toArray 9)):=(Below.refl _ _).alloc (Nat.le_refl _) _
 refine (write_any B p x m lim bs w.heap.size ps _ (h.1.alloc _) (heap_alloc_new w _) hn hlen).mono ?_
 rintro e w' ⟨rfl,hp⟩
 have h2:PrF B p x m lim bs w (w.alloc (.cells (ps.map fun s=>Value.string (strB s)).toArray 9)):=(PrF.refl h.1).below hb
 exact ⟨rfl,h.then (h2.then hp),(h2.then hp).2⟩
set_option maxRecDepth 100000 in
set_option maxHeartbeats 8000000 in
theorem expr_says (e:Ex)(hk0:0≤e.k∧e.k < 20)(HR:RuleSays e):ExprSays e:=by
 intro B p x m lim bs asked cs w hP hre hlen
 cases e with
 | mk k n s t ns l ops bs2 =>
 simp only [Ex.k] at hk0
 obtain ⟨kn,rfl⟩:∃ kn:Nat,k=(kn:Int):=⟨k.toNat,by omega⟩
 have hk:kn < 20:=by omega
 have HRE:=Lib.hid hre
 obtain ⟨An,cn,Al,cl,Aa,ca,rfl,_⟩:=hre
 have HRu:Hid (∀ (bs':Txt) (w':World),Pr B p x m lim bs' w'→Same (fun b=>b < B) w w'→bs'.length+tot (pcs (.mk kn n s t ns l ops bs2))≤140737488355328 →
   Calls Tryz.prog (ruleFn kn) (if ruleB kn=true then #[.pointer (some ⟨p,0,none⟩),.agg (exCells kn n s t An ns.length cn Al l.length cl Aa bs2.length ca).toArray] else #[.agg (exCells kn n s t An ns.length cn Al l.length cl Aa bs2.length ca).toArray,.pointer (some ⟨x,0,none⟩)]) w' (PrPost B p x m lim bs' (pcs (.mk kn n s t ns l ops bs2)) w')) :=
  Lib.hid (fun bs' w' h1 h2 h3=>HR B p x m lim bs' _ w' h1 (HRE.out.keep h2) h3)
 have henter:=rule_enters kn hk
 obtain ⟨ps,hps⟩:∃ ps,ps=pcs (.mk kn n s t ns l ops bs2):=⟨_,rfl⟩
 obtain ⟨lv,hlv⟩:∃ lv,lv=lvO (kn:Int) s:=⟨_,rfl⟩
 have hlp:(Ex.mk kn n s t ns l ops bs2).lp=(lv,ps):=by rw [hps,hlv];rfl
 rw [hlp] at hlen ⊢
 have HLv:=Lib.hid (fun w=>levelOf_any kn (.int .i64 n) s (.string (strB t)) (.slice An ns.length cn) (.slice Al l.length cl) (.slice Aa bs2.length ca) w)
 rw [← hlv] at HLv
 rw [← hps] at HRu
 unfold exCells at HRu ⊢
 obtain ⟨S,hS⟩:∃ S,S=strB s:=⟨_,rfl⟩
 obtain ⟨T,hT⟩:∃ T,T=strB t:=⟨_,rfl⟩
 obtain ⟨m0,hm0⟩:∃ m,m=ns.length:=⟨_,rfl⟩
 obtain ⟨m1,hm1⟩:∃ m,m=l.length:=⟨_,rfl⟩
 obtain ⟨m2,hm2⟩:∃ m,m=bs2.length:=⟨_,rfl⟩
 rw [← hS,← hT,← hm0,← hm1,← hm2] at HRu HLv ⊢
 obtain ⟨fn,hfn⟩:∃ fn,fn=ruleFn kn:=⟨_,rfl⟩
 rw [← hfn] at HRu henter
 have hbox:=EB.new w (.int .i64 kn) (.int .i64 n) (.string S) (.string T) (.slice An m0 cn) (.slice Al m1 cl) (.slice Aa m2 ca)
 have hgp:w.heap.size≠p:=by have:=hP.ltp;omega
 have HX1:Hid (ExS B p x m lim bs w w.heap.size (.int .i64 kn) (.int .i64 n) (.string S) (.string T) (.slice An m0 cn) (.slice Al m1 cl) (.slice Aa m2 ca) (w.alloc (.cells #[.int .i64 kn,.int .i64 n,.string S,.string T,.slice An m0 cn,.slice Al m1 cl,.slice Aa m2 ca] 27))) :=
  Lib.hid ⟨(PrF.refl hP).below ((Below.refl _ _).alloc (Nat.le_refl _) _),hbox⟩
 have HLn:=Lib.hid hlen
 cases hrb:ruleB kn with
 | false =>
  rw [hrb] at HRu
  simp only [if_false,Bool.false_eq_true] at HRu
  have hrv:=ruleV_f (p:=p) (x:=x) hrb
  rw [← hfn] at hrv
  clear hbox hP hlen hps hlv hlp hS hT hm0 hm1 hm2 hfn hrb hk0 HRE
  by_cases hle:asked≤lv
  ·have hd:decide (asked≤lv)=true:=decide_eq_true hle
   have HL2:Hid (bs.length+tot ps≤140737488355328):=Lib.hid (by have:=HLn.out;unfold atP at this;rwa [if_pos hle] at this)
   have HQ:Hid (atP asked (lv,ps)=ps):=Lib.hid (by unfold atP;exact if_pos hle)
   go_enter Tryz.func15,Tryz.ntmps15
   go_wp2_with fail
   refine (HLv.out _).mono ?_
   rintro e w2 ⟨rfl,hb⟩
   have hx2:ExS B p x m lim bs w w.heap.size (.int .i64 kn) (.int .i64 n) (.string S) (.string T) (.slice An m0 cn) (.slice Al m1 cl) (.slice Aa m2 ca) w2:=⟨HX1.out.1.below hb,HX1.out.2.kept (grown_below hb none) (by simp)⟩
   have hfs:Same (fun b=>b < B) w w2.drew:=(hx2.1.drew).2.same
   clear hb
   go_wp2_with fail
   go_region_held3 (fun w'=>w'.cell? ⟨p,3,none⟩=some (.map (some m))∧w'.cell? ⟨w.heap.size,0,none⟩=some (.int .i64 (kn:Int))∧w'.cell? ⟨w.heap.size,1,none⟩=some (.int .i64 n)∧w'.cell? ⟨w.heap.size,2,none⟩=some (.string S)∧w'.cell? ⟨w.heap.size,3,none⟩=some (.string T)∧w'.cell? ⟨w.heap.size,4,none⟩=some (.slice An m0 cn)∧w'.cell? ⟨w.heap.size,5,none⟩=some (.slice Al m1 cl)∧w'.cell? ⟨w.heap.size,6,none⟩=some (.slice Aa m2 ca) ∧
     (Instr.lookup 48 (.map (some m)) (.int .i64 (kn:Int)) false).run Tryz.prog w'=.ok (ruleV p x kn) w'∧ExSx B p x m lim w w.heap.size (.int .i64 kn) (.int .i64 n) (.string S) (.string T) (.slice An m0 cn) (.slice Al m1 cl) (.slice Aa m2 ca) w')
    ((refine ExSx.all hk ?_;first | assumption | exact (ExS.drew hx2).toX | exact (ExS.call (ExS.drew hx2) hgp (by assumption)).toX))
    (first | (go_at_fn fn;refine (HRu.out bs _ (ExS.drew hx2).1.1 hfs HL2.out).mono ?_;rintro e w' ⟨rfl,hpf⟩))
   rename_i hh
   have HE:Hid (PrF B p x m lim (wrs lim bs ps) w w'):=Lib.hid ((ExS.drew hx2).1.then hpf)
   clear hh hpf hx2 hfs
   go_wp2_with fail
   go_end0
   exact ⟨rfl,by rw [HQ.out];exact HE.out⟩
  ·have hd:decide (asked≤lv)=false:=decide_eq_false hle
   have HL2:Hid (bs.length+(1+(tot ps+1))≤140737488355328):=Lib.hid (by have:=HLn.out;unfold atP at this;rw [if_neg hle,tot_append,tot_append] at this;exact this)
   have HQ:Hid (wrs lim bs (atP asked (lv,ps))=wrs lim (wrs lim (wrs lim bs [[40]]) ps) [[41]]):=Lib.hid (by unfold atP;rw [if_neg hle,wrs_append,wrs_append])
   have HL3:Hid ((wrs lim bs [[40]]).length+tot ps≤140737488355328):=Lib.hid (by have h1:=wrs_len lim [[40]] bs;have h2:tot [[40]]=1:=rfl;have:=HL2.out;omega)
   have HL4:Hid ((wrs lim (wrs lim bs [[40]]) ps).length+tot [[41]]≤140737488355328):=Lib.hid (by have h1:=wrs_len lim [[40]] bs;have h2:tot [[40]]=1:=rfl;have h3:=wrs_len lim ps (wrs lim bs [[40]]);have h4:tot [[41]]=1:=rfl;have:=HL2.out;omega)
   have HL5:Hid (bs.length+tot [[40]]≤140737488355328):=Lib.hid (by have h2:tot [[40]]=1:=rfl;have:=HL2.out;omega)
   go_enter Tryz.func15,Tryz.ntmps15
   go_wp2_with fail
   refine (HLv.out _).mono ?_
   rintro e w2 ⟨rfl,hb⟩
   have HX2:Hid (ExS B p x m lim bs w w.heap.size (.int .i64 kn) (.int .i64 n) (.string S) (.string T) (.slice An m0 cn) (.slice Al m1 cl) (.slice Aa m2 ca) w2):=Lib.hid ⟨HX1.out.1.below hb,HX1.out.2.kept (grown_below hb none) (by simp)⟩
   clear hb
   go_wp2_with fail
   refine (write_new [[40]] w2 HX2.out.1 (by decide) HL5.out).mono ?_
   rintro e w3 ⟨rfl,hp3,hf3⟩
   have hx3:ExS B p x m lim (wrs lim bs [[40]]) w w.heap.size (.int .i64 kn) (.int .i64 n) (.string S) (.string T) (.slice An m0 cn) (.slice Al m1 cl) (.slice Aa m2 ca) w3:=⟨hp3,HX2.out.2.fr' hf3 hgp⟩
   have hfs:Same (fun b=>b < B) w w3.drew:=(hx3.1.drew).2.same
   clear hp3 hf3
   go_wp2_with fail
   go_region_held3 (fun w'=>w'.cell? ⟨p,3,none⟩=some (.map (some m))∧w'.cell? ⟨w.heap.size,0,none⟩=some (.int .i64 (kn:Int))∧w'.cell? ⟨w.heap.size,1,none⟩=some (.int .i64 n)∧w'.cell? ⟨w.heap.size,2,none⟩=some (.string S)∧w'.cell? ⟨w.heap.size,3,none⟩=some (.string T)∧w'.cell? ⟨w.heap.size,4,none⟩=some (.slice An m0 cn)∧w'.cell? ⟨w.heap.size,5,none⟩=some (.slice Al m1 cl)∧w'.cell? ⟨w.heap.size,6,none⟩=some (.slice Aa m2 ca) ∧
     (Instr.lookup 48 (.map (some m)) (.int .i64 (kn:Int)) false).run Tryz.prog w'=.ok (ruleV p x kn) w'∧ExSx B p x m lim w w.heap.size (.int .i64 kn) (.int .i64 n) (.string S) (.string T) (.slice An m0 cn) (.slice Al m1 cl) (.slice Aa m2 ca) w')
    ((refine ExSx.all hk ?_;first | assumption | exact (ExS.drew hx3).toX | exact (ExS.call (ExS.drew hx3) hgp (by assumption)).toX))
    (first | (go_at_fn fn;refine (HRu.out _ _ (ExS.drew hx3).1.1 hfs HL3.out).mono ?_;rintro e w' ⟨rfl,hpf⟩))
   rename_i hh
   have HE:Hid (PrF B p x m lim (wrs lim (wrs lim bs [[40]]) ps) w w'):=Lib.hid ((ExS.drew hx3).1.then hpf)
   clear hh hpf hx3 hfs
   go_wp2_with fail
   refine (write_new [[41]] w' HE.out (by decide) HL4.out).mono ?_
   rintro e w4 ⟨rfl,hp4,hf4⟩
   have HE4:=Lib.hid hp4
   clear hp4 hf4
   go_wp2_with fail
   go_end0
   exact ⟨rfl,by rw [HQ.out];exact HE4.out⟩
 | true =>
  rw [hrb] at HRu
  simp only [if_true] at HRu
  have hrv:=ruleV_t (p:=p) (x:=x) hrb
  rw [← hfn] at hrv
  clear hbox hP hlen hps hlv hlp hS hT hm0 hm1 hm2 hfn hrb hk0 HRE
  by_cases hle:asked≤lv
  ·have hd:decide (asked≤lv)=true:=decide_eq_true hle
   have HL2:Hid (bs.length+tot ps≤140737488355328):=Lib.hid (by have:=HLn.out;unfold atP at this;rwa [if_pos hle] at this)
   have HQ:Hid (atP asked (lv,ps)=ps):=Lib.hid (by unfold atP;exact if_pos hle)
   go_enter Tryz.func15,Tryz.ntmps15
   go_wp2_with fail
   refine (HLv.out _).mono ?_
   rintro e w2 ⟨rfl,hb⟩
   have hx2:ExS B p x m lim bs w w.heap.size (.int .i64 kn) (.int .i64 n) (.string S) (.string T) (.slice An m0 cn) (.slice Al m1 cl) (.slice Aa m2 ca) w2:=⟨HX1.out.1.below hb,HX1.out.2.kept (grown_below hb none) (by simp)⟩
   have hfs:Same (fun b=>b < B) w w2.drew:=(hx2.1.drew).2.same
   clear hb
   go_wp2_with fail
   go_region_held3 (fun w'=>w'.cell? ⟨p,3,none⟩=some (.map (some m))∧w'.cell? ⟨w.heap.size,0,none⟩=some (.int .i64 (kn:Int))∧w'.cell? ⟨w.heap.size,1,none⟩=some (.int .i64 n)∧w'.cell? ⟨w.heap.size,2,none⟩=some (.string S)∧w'.cell? ⟨w.heap.size,3,none⟩=some (.string T)∧w'.cell? ⟨w.heap.size,4,none⟩=some (.slice An m0 cn)∧w'.cell? ⟨w.heap.size,5,none⟩=some (.slice Al m1 cl)∧w'.cell? ⟨w.heap.size,6,none⟩=some (.slice Aa m2 ca) ∧
     (Instr.lookup 48 (.map (some m)) (.int .i64 (kn:Int)) false).run Tryz.prog w'=.ok (ruleV p x kn) w'∧ExSx B p x m lim w w.heap.size (.int .i64 kn) (.int .i64 n) (.string S) (.string T) (.slice An m0 cn) (.slice Al m1 cl) (.slice Aa m2 ca) w')
    ((refine ExSx.all hk ?_;first | assumption | exact (ExS.drew hx2).toX | exact (ExS.call (ExS.drew hx2) hgp (by assumption)).toX))
    (first | (go_at_fn fn;refine (HRu.out bs _ (ExS.drew hx2).1.1 hfs HL2.out).mono ?_;rintro e w' ⟨rfl,hpf⟩))
   rename_i hh
   have HE:Hid (PrF B p x m lim (wrs lim bs ps) w w'):=Lib.hid ((ExS.drew hx2).1.then hpf)
   clear hh hpf hx2 hfs
   go_wp2_with fail
   go_end0
   exact ⟨rfl,by rw [HQ.out];exact HE.out⟩
  ·have hd:decide (asked≤lv)=false:=decide_eq_false hle
   have HL2:Hid (bs.length+(1+(tot ps+1))≤140737488355328):=Lib.hid (by have:=HLn.out;unfold atP at this;rw [if_neg hle,tot_append,tot_append] at this;exact this)
   have HQ:Hid (wrs lim bs (atP asked (lv,ps))=wrs lim (wrs lim (wrs lim bs [[40]]) ps) [[41]]):=Lib.hid (by unfold atP;rw [if_neg hle,wrs_append,wrs_append])
   have HL3:Hid ((wrs lim bs [[40]]).length+tot ps≤140737488355328):=Lib.hid (by have h1:=wrs_len lim [[40]] bs;have h2:tot [[40]]=1:=rfl;have:=HL2.out;omega)
   have HL4:Hid ((wrs lim (wrs lim bs [[40]]) ps).length+tot [[41]]≤140737488355328):=Lib.hid (by have h1:=wrs_len lim [[40]] bs;have h2:tot [[40]]=1:=rfl;have h3:=wrs_len lim ps (wrs lim bs [[40]]);have h4:tot [[41]]=1:=rfl;have:=HL2.out;omega)
   have HL5:Hid (bs.length+tot [[40]]≤140737488355328):=Lib.hid (by have h2:tot [[40]]=1:=rfl;have:=HL2.out;omega)
   go_enter Tryz.func15,Tryz.ntmps15
   go_wp2_with fail
   refine (HLv.out _).mono ?_
   rintro e w2 ⟨rfl,hb⟩
   have HX2:Hid (ExS B p x m lim bs w w.heap.size (.int .i64 kn) (.int .i64 n) (.string S) (.string T) (.slice An m0 cn) (.slice Al m1 cl) (.slice Aa m2 ca) w2):=Lib.hid ⟨HX1.out.1.below hb,HX1.out.2.kept (grown_below hb none) (by simp)⟩
   clear hb
   go_wp2_with fail
   refine (write_new [[40]] w2 HX2.out.1 (by decide) HL5.out).mono ?_
   rintro e w3 ⟨rfl,hp3,hf3⟩
   have hx3:ExS B p x m lim (wrs lim bs [[40]]) w w.heap.size (.int .i64 kn) (.int .i64 n) (.string S) (.string T) (.slice An m0 cn) (.slice Al m1 cl) (.slice Aa m2 ca) w3:=⟨hp3,HX2.out.2.fr' hf3 hgp⟩
   have hfs:Same (fun b=>b < B) w w3.drew:=(hx3.1.drew).2.same
   clear hp3 hf3
   go_wp2_with fail
   go_region_held3 (fun w'=>w'.cell? ⟨p,3,none⟩=some (.map (some m))∧w'.cell? ⟨w.heap.size,0,none⟩=some (.int .i64 (kn:Int))∧w'.cell? ⟨w.heap.size,1,none⟩=some (.int .i64 n)∧w'.cell? ⟨w.heap.size,2,none⟩=some (.string S)∧w'.cell? ⟨w.heap.size,3,none⟩=some (.string T)∧w'.cell? ⟨w.heap.size,4,none⟩=some (.slice An m0 cn)∧w'.cell? ⟨w.heap.size,5,none⟩=some (.slice Al m1 cl)∧w'.cell? ⟨w.heap.size,6,none⟩=some (.slice Aa m2 ca) ∧
     (Instr.lookup 48 (.map (some m)) (.int .i64 (kn:Int)) false).run Tryz.prog w'=.ok (ruleV p x kn) w'∧ExSx B p x m lim w w.heap.size (.int .i64 kn) (.int .i64 n) (.string S) (.string T) (.slice An m0 cn) (.slice Al m1 cl) (.slice Aa m2 ca) w')
    ((refine ExSx.all hk ?_;first | assumption | exact (ExS.drew hx3).toX | exact (ExS.call (ExS.drew hx3) hgp (by assumption)).toX))
    (first | (go_at_fn fn;refine (HRu.out _ _ (ExS.drew hx3).1.1 hfs HL3.out).mono ?_;rintro e w' ⟨rfl,hpf⟩))
   rename_i hh
   have HE:Hid (PrF B p x m lim (wrs lim (wrs lim bs [[40]]) ps) w w'):=Lib.hid ((ExS.drew hx3).1.then hpf)
   clear hh hpf hx3 hfs
   go_wp2_with fail
   refine (write_new [[41]] w' HE.out (by decide) HL4.out).mono ?_
   rintro e w4 ⟨rfl,hp4,hf4⟩
   have HE4:=Lib.hid hp4
   clear hp4 hf4
   go_wp2_with fail
   go_end0
   exact ⟨rfl,by rw [HQ.out];exact HE4.out⟩
end Go.Proofs.YtpjabnemkmdobaaGreatDoor
namespace Go.Proofs.YtpjabnemkmdobaaGreatDoor
open Go.RowKit
theorem Pr.cx {B p x m:Nat}{lim:Int}{bs:Txt}{w:World}(h:Pr B p x m lim bs w):w.cell? ⟨x,0,none⟩=some (.pointer (some ⟨p,0,none⟩)):=by
 obtain ⟨_,_,_,_,hx,_⟩:=h
 exact cell_of_row w x 0 _ _ (0,0) hx
set_option maxRecDepth 100000 in
set_option maxHeartbeats 4000000 in
theorem rule_var (n:Int)(s t:Txt)(ns:List Txt)(l:List Ex)(ops:List (Txt × List Txt))(bs2:List Ex):RuleSays (.mk 0 n s t ns l ops bs2):=by
 intro B p x m lim bs cs w hP hre hlen
 have HRE:=Lib.hid hre
 obtain ⟨An,cn,Al,cl,Aa,ca,rfl,hf,hn,hl,ha,ho⟩:=hre
 show Calls Tryz.prog 24 #[.agg #[.int .i64 0,.int .i64 n,.string (strB s),.string (strB t),.slice An ns.length cn,.slice Al l.length cl,.slice Aa bs2.length ca],.pointer (some ⟨x,0,none⟩)] w _
 obtain ⟨W1,hW1⟩:∃ W1,w.alloc (.cells #[.int .i64 0,.int .i64 n,.string (strB s),.string (strB t),.slice An ns.length cn,.slice Al l.length cl,.slice Aa bs2.length ca] 27)=W1:=⟨_,rfl⟩
 have HF1:Hid (PrF B p x m lim bs w W1):=Lib.hid (by rw [← hW1];exact (PrF.refl hP).below ((Below.refl _ _).alloc (Nat.le_refl _) _))
 have HE1:Hid (EB W1 w.heap.size (.int .i64 0) (.int .i64 n) (.string (strB s)) (.string (strB t)) (.slice An ns.length cn) (.slice Al l.length cl) (.slice Aa bs2.length ca)):=Lib.hid (by rw [← hW1];exact EB.new w _ _ _ _ _ _ _)
 have e0:=HE1.out.c0
 have e1:=HE1.out.c1
 have e2:=HE1.out.c2
 have e3:=HE1.out.c3
 have e4:=HE1.out.c4
 have e5:=HE1.out.c5
 have e6:=HE1.out.c6
 have hx1:=HF1.out.1.cx
 have hgp:w.heap.size≠p:=by have:=hP.ltp;omega
 have hpcs:pcs (.mk 0 n s t ns l ops bs2)=[s]:=by rw [pcs_mk];rfl
 rw [hpcs] at hlen ⊢
 clear hf hn hl ha ho hpcs
 go_enter Tryz.func24,Tryz.ntmps24
 go_wp2_with fail
 clear hW1 hP
 refine (write_new [s] W1 HF1.out (by simp) hlen).mono ?_
 rintro e w2 ⟨rfl,hp2,hf2⟩
 have HR:=Lib.hid hp2
 clear hp2 hf2
 go_wp2_with fail
 go_end0
 exact ⟨rfl,HR.out⟩
set_option maxRecDepth 100000 in
set_option maxHeartbeats 4000000 in
theorem rule_unit (n:Int)(s t:Txt)(ns:List Txt)(l:List Ex)(ops:List (Txt × List Txt))(bs2:List Ex):RuleSays (.mk 3 n s t ns l ops bs2):=by
 intro B p x m lim bs cs w hP hre hlen
 have HRE:=Lib.hid hre
 obtain ⟨An,cn,Al,cl,Aa,ca,rfl,hf,hn,hl,ha,ho⟩:=hre
 show Calls Tryz.prog 28 #[.agg #[.int .i64 3,.int .i64 n,.string (strB s),.string (strB t),.slice An ns.length cn,.slice Al l.length cl,.slice Aa bs2.length ca],.pointer (some ⟨x,0,none⟩)] w _
 obtain ⟨W1,hW1⟩:∃ W1,w.alloc (.cells #[.int .i64 3,.int .i64 n,.string (strB s),.string (strB t),.slice An ns.length cn,.slice Al l.length cl,.slice Aa bs2.length ca] 27)=W1:=⟨_,rfl⟩
 have HF1:Hid (PrF B p x m lim bs w W1):=Lib.hid (by rw [← hW1];exact (PrF.refl hP).below ((Below.refl _ _).alloc (Nat.le_refl _) _))
 have HE1:Hid (EB W1 w.heap.size (.int .i64 3) (.int .i64 n) (.string (strB s)) (.string (strB t)) (.slice An ns.length cn) (.slice Al l.length cl) (.slice Aa bs2.length ca)):=Lib.hid (by rw [← hW1];exact EB.new w _ _ _ _ _ _ _)
 have e0:=HE1.out.c0
 have e1:=HE1.out.c1
 have e2:=HE1.out.c2
 have e3:=HE1.out.c3
 have e4:=HE1.out.c4
 have e5:=HE1.out.c5
 have e6:=HE1.out.c6
 have hx1:=HF1.out.1.cx
 have hgp:w.heap.size≠p:=by have:=hP.ltp;omega
 have hpcs:pcs (.mk 3 n s t ns l ops bs2)=[[40,41]]:=by rw [pcs_mk];rfl
 rw [hpcs] at hlen ⊢
 clear hf hn hl ha ho hpcs
 go_enter Tryz.func28,Tryz.ntmps28
 go_wp2_with fail
 clear hW1 hP
 refine (write_new [[40,41]] W1 HF1.out (by simp) hlen).mono ?_
 rintro e w2 ⟨rfl,hp2,hf2⟩
 have HR:=Lib.hid hp2
 clear hp2 hf2
 go_wp2_with fail
 go_end0
 exact ⟨rfl,HR.out⟩
set_option maxRecDepth 100000 in
set_option maxHeartbeats 4000000 in
theorem rule_drop (n:Int)(s t:Txt)(ns:List Txt)(l:List Ex)(ops:List (Txt × List Txt))(bs2:List Ex):RuleSays (.mk 19 n s t ns l ops bs2):=by
 intro B p x m lim bs cs w hP hre hlen
 have HRE:=Lib.hid hre
 obtain ⟨An,cn,Al,cl,Aa,ca,rfl,hf,hn,hl,ha,ho⟩:=hre
 show Calls Tryz.prog 43 #[.agg #[.int .i64 19,.int .i64 n,.string (strB s),.string (strB t),.slice An ns.length cn,.slice Al l.length cl,.slice Aa bs2.length ca],.pointer (some ⟨x,0,none⟩)] w _
 obtain ⟨W1,hW1⟩:∃ W1,w.alloc (.cells #[.int .i64 19,.int .i64 n,.string (strB s),.string (strB t),.slice An ns.length cn,.slice Al l.length cl,.slice Aa bs2.length ca] 27)=W1:=⟨_,rfl⟩
 have HF1:Hid (PrF B p x m lim bs w W1):=Lib.hid (by rw [← hW1];exact (PrF.refl hP).below ((Below.refl _ _).alloc (Nat.le_refl _) _))
 have HE1:Hid (EB W1 w.heap.size (.int .i64 19) (.int .i64 n) (.string (strB s)) (.string (strB t)) (.slice An ns.length cn) (.slice Al l.length cl) (.slice Aa bs2.length ca)):=Lib.hid (by rw [← hW1];exact EB.new w _ _ _ _ _ _ _)
 have e0:=HE1.out.c0
 have e1:=HE1.out.c1
 have e2:=HE1.out.c2
 have e3:=HE1.out.c3
 have e4:=HE1.out.c4
 have e5:=HE1.out.c5
 have e6:=HE1.out.c6
 have hx1:=HF1.out.1.cx
 have hgp:w.heap.size≠p:=by have:=hP.ltp;omega
 have hpcs:pcs (.mk 19 n s t ns l ops bs2)=[[100,114,111,112,32],s]:=by rw [pcs_mk];rfl
 rw [hpcs] at hlen ⊢
 clear hf hn hl ha ho hpcs
 go_enter Tryz.func43,Tryz.ntmps43
 go_wp2_with fail
 clear hW1 hP
 refine (write_new [[100,114,111,112,32],s] W1 HF1.out (by simp) hlen).mono ?_
 rintro e w2 ⟨rfl,hp2,hf2⟩
 have HR:=Lib.hid hp2
 clear hp2 hf2
 go_wp2_with fail
 go_end0
 exact ⟨rfl,HR.out⟩
set_option maxRecDepth 100000 in
set_option maxHeartbeats 4000000 in
theorem rule_bool (n:Int)(s t:Txt)(ns:List Txt)(l:List Ex)(ops:List (Txt × List Txt))(bs2:List Ex):RuleSays (.mk 2 n s t ns l ops bs2):=by
 intro B p x m lim bs cs w hP hre hlen
 have HRE:=Lib.hid hre
 obtain ⟨An,cn,Al,cl,Aa,ca,rfl,hf,hn,hl,ha,ho⟩:=hre
 show Calls Tryz.prog 27 #[.pointer (some ⟨p,0,none⟩),.agg #[.int .i64 2,.int .i64 n,.string (strB s),.string (strB t),.slice An ns.length cn,.slice Al l.length cl,.slice Aa bs2.length ca]] w _
 obtain ⟨W1,hW1⟩:∃ W1,w.alloc (.cells #[.int .i64 2,.int .i64 n,.string (strB s),.string (strB t),.slice An ns.length cn,.slice Al l.length cl,.slice Aa bs2.length ca] 27)=W1:=⟨_,rfl⟩
 have HF1:Hid (PrF B p x m lim bs w W1):=Lib.hid (by rw [← hW1];exact (PrF.refl hP).below ((Below.refl _ _).alloc (Nat.le_refl _) _))
 have HE1:Hid (EB W1 w.heap.size (.int .i64 2) (.int .i64 n) (.string (strB s)) (.string (strB t)) (.slice An ns.length cn) (.slice Al l.length cl) (.slice Aa bs2.length ca)):=Lib.hid (by rw [← hW1];exact EB.new w _ _ _ _ _ _ _)
 have e0:=HE1.out.c0
 have e1:=HE1.out.c1
 have e2:=HE1.out.c2
 have e3:=HE1.out.c3
 have e4:=HE1.out.c4
 have e5:=HE1.out.c5
 have e6:=HE1.out.c6
 have hx1:=HF1.out.1.cx
 have hgp:w.heap.size≠p:=by have:=hP.ltp;omega
 clear hf hn hl ha ho
 by_cases h0:n=0
 ·subst h0
  have hpcs:pcs (.mk 2 0 s t ns l ops bs2)=[[102,97,108,115,101]]:=by rw [pcs_mk];rfl
  rw [hpcs] at hlen ⊢
  clear hpcs
  go_enter Tryz.func27,Tryz.ntmps27
  go_wp2_with fail
  clear hW1 hP
  refine (write_new [[102,97,108,115,101]] W1 HF1.out (by simp) hlen).mono ?_
  rintro e w2 ⟨rfl,hp2,hf2⟩
  have HR:=Lib.hid hp2
  clear hp2 hf2
  go_wp2_with fail
  go_end0
  exact ⟨rfl,HR.out⟩
 ·have h0b:(n == 0)=false:=by simpa using h0
  have hpcs:pcs (.mk 2 n s t ns l ops bs2)=[[116,114,117,101]]:=by rw [pcs_mk];exact if_neg h0
  rw [hpcs] at hlen ⊢
  clear hpcs h0
  go_enter Tryz.func27,Tryz.ntmps27
  go_wp2_with fail
  clear hW1 hP
  refine (write_new [[116,114,117,101]] W1 HF1.out (by simp) hlen).mono ?_
  rintro e w2 ⟨rfl,hp2,hf2⟩
  have HR:=Lib.hid hp2
  clear hp2 hf2
  go_wp2_with fail
  go_end0
  exact ⟨rfl,HR.out⟩
set_option maxRecDepth 100000 in
set_option maxHeartbeats 4000000 in
theorem rule_int (n:Int)(s t:Txt)(ns:List Txt)(l:List Ex)(ops:List (Txt × List Txt))(bs2:List Ex):RuleSays (.mk 1 n s t ns l ops bs2):=by
 intro B p x m lim bs cs w hP hre hlen
 have HRE:=Lib.hid hre
 obtain ⟨An,cn,Al,cl,Aa,ca,rfl,hf,hn,hl,ha,ho⟩:=hre
 show Calls Tryz.prog 26 #[.pointer (some ⟨p,0,none⟩),.agg #[.int .i64 1,.int .i64 n,.string (strB s),.string (strB t),.slice An ns.length cn,.slice Al l.length cl,.slice Aa bs2.length ca]] w _
 obtain ⟨W1,hW1⟩:∃ W1,w.alloc (.cells #[.int .i64 1,.int .i64 n,.string (strB s),.string (strB t),.slice An ns.length cn,.slice Al l.length cl,.slice Aa bs2.length ca] 27)=W1:=⟨_,rfl⟩
 have HF1:Hid (PrF B p x m lim bs w W1):=Lib.hid (by rw [← hW1];exact (PrF.refl hP).below ((Below.refl _ _).alloc (Nat.le_refl _) _))
 have HE1:Hid (EB W1 w.heap.size (.int .i64 1) (.int .i64 n) (.string (strB s)) (.string (strB t)) (.slice An ns.length cn) (.slice Al l.length cl) (.slice Aa bs2.length ca)):=Lib.hid (by rw [← hW1];exact EB.new w _ _ _ _ _ _ _)
 have e0:=HE1.out.c0
 have e1:=HE1.out.c1
 have e2:=HE1.out.c2
 have e3:=HE1.out.c3
 have e4:=HE1.out.c4
 have e5:=HE1.out.c5
 have e6:=HE1.out.c6
 have hx1:=HF1.out.1.cx
 have hgp:w.heap.size≠p:=by have:=hP.ltp;omega
 have HD:=Lib.hid (fun w' hT=>Digits_any n w' hf.hn hT)
 clear hf hn hl ha ho
 by_cases h0:n < 0
 ·have hd:decide (n < 0)=true:=decide_eq_true h0
  have hpcs:pcs (.mk 1 n s t ns l ops bs2)=[[40],Lib.itoa n,[41]]:=by rw [pcs_mk];exact if_pos h0
  rw [hpcs] at hlen ⊢
  clear hpcs
  go_enter Tryz.func26,Tryz.ntmps26
  go_wp2_with fail
  refine (HD.out _ HF1.out.1.2.2.2.2.2.2.1).mono ?_
  rintro e w3 ⟨rfl,hb⟩
  have HF3:=Lib.hid (HF1.out.below hb)
  clear hb HD
  go_wp2_with fail
  clear hW1 hP
  refine (write_new [[40],Lib.itoa n,[41]] w3 HF3.out (by simp) hlen).mono ?_
  rintro e w2 ⟨rfl,hp2,hf2⟩
  have HR:=Lib.hid hp2
  clear hp2 hf2
  go_wp2_with fail
  go_end0
  exact ⟨rfl,HR.out⟩
 ·have hd:decide (n < 0)=false:=decide_eq_false h0
  have hpcs:pcs (.mk 1 n s t ns l ops bs2)=[Lib.itoa n]:=by rw [pcs_mk];exact if_neg h0
  rw [hpcs] at hlen ⊢
  clear hpcs
  go_enter Tryz.func26,Tryz.ntmps26
  go_wp2_with fail
  refine (HD.out _ HF1.out.1.2.2.2.2.2.2.1).mono ?_
  rintro e w3 ⟨rfl,hb⟩
  have HF3:=Lib.hid (HF1.out.below hb)
  clear hb HD
  go_wp2_with fail
  clear hW1 hP
  refine (write_new [Lib.itoa n] w3 HF3.out (by simp) hlen).mono ?_
  rintro e w2 ⟨rfl,hp2,hf2⟩
  have HR:=Lib.hid hp2
  clear hp2 hf2
  go_wp2_with fail
  go_end0
  exact ⟨rfl,HR.out⟩
end Go.Proofs.YtpjabnemkmdobaaGreatDoor
namespace Go.Proofs.YtpjabnemkmdobaaGreatDoor
open Go.RowKit Go.Shelf
attribute [local go_sem] Oper.semAt_some
def KC (P:Nat→Prop)(w w':World):Prop:=w.heap.size≤w'.heap.size∧∀ (b o:Nat) (v:Value),P b→w.cell? ⟨b,o,none⟩=some v→w'.cell? ⟨b,o,none⟩=some v∧w'.frozen? ⟨b,o,none⟩=w.frozen? ⟨b,o,none⟩
theorem KC.refl (P:Nat→Prop)(w:World):KC P w w:=⟨Nat.le_refl _,fun _ _ _ _ h=>⟨h,rfl⟩⟩
theorem KC.trans {P:Nat→Prop}{a b c:World}(h:KC P a b)(k:KC P b c):KC P a c:=⟨Nat.le_trans h.1 k.1,fun x o v hp hv=>have h1:=h.2 x o v hp hv;have h2:=k.2 x o v hp h1.1;⟨h2.1,h2.2.trans h1.2⟩⟩
theorem KC.of_grown {P:Nat→Prop}{w w':World}{row:Option Nat}(h:w.grownBy w' row)(hp:∀ b,P b→some b≠row):KC P w w' :=
 ⟨h.size,fun b o v hb hv=>by
  have hlt:b < w.heap.size:=by
   cases hh:w.heap[b]? with
   | none=>unfold World.cell? at hv;simp [hh] at hv
   | some x=>exact (Array.getElem?_eq_some_iff.1 hh).1
  rw [← hv];unfold World.cell? World.frozen?;simp only [h.block b hlt (hp b hb)];exact ⟨trivial,trivial⟩⟩
theorem KC.alloc (P:Nat→Prop)(w:World)(o:Obj):KC P w (w.alloc o):=KC.of_grown (World.grownBy_alloc w o none) (fun _ _=>by simp)
theorem CellsAt.keepC {P:Nat→Prop}{w w':World}{b off:Nat}{xs:List Value}(h:CellsAt w b off xs)(hp:P b)(hs:KC P w w'):CellsAt w' b off xs:=fun i v hi=>(hs.2 _ _ _ hp (h i v hi)).1
theorem NamesAt.keepC {P:Nat→Prop}{w w':World}{A:Option Addr}{L:List (List UInt8)}(h:NamesAt P w A L)(hs:KC P w w'):NamesAt P w' A L:=fun h0=>by
 obtain ⟨b,off,e,hp,hlt,hc⟩:=h h0
 exact ⟨b,off,e,hp,Nat.lt_of_lt_of_le hlt hs.1,fun j l hj=>(hs.2 _ _ _ hp (hc j l hj)).1⟩
mutual
theorem RepE.keepC {P:Nat→Prop}{w w':World}(hs:KC P w w'):∀ {e:Ex} {cs:List Value},RepE P w e cs→RepE P w' e cs
 | .mk k n s t ns l ops bs,cs,h=>by
  obtain ⟨An,cn,Al,cl,Aa,ca,e,hf,hn,hl,ha,ho⟩:=h
  refine ⟨An,cn,Al,cl,Aa,ca,e,hf,hn.keepC hs,fun h0=>?_,fun h0=>?_,ho⟩
  ·obtain ⟨b,off,e,hp,hlt,hr⟩:=hl h0
   exact ⟨b,off,e,hp,Nat.lt_of_lt_of_le hlt hs.1,RepL.keepC hs hp hr⟩
  ·obtain ⟨b,off,e,hp,hlt,hr⟩:=ha h0
   exact ⟨b,off,e,hp,Nat.lt_of_lt_of_le hlt hs.1,RepA.keepC hs hp hr⟩
theorem RepL.keepC {P:Nat→Prop}{w w':World}(hs:KC P w w'){b:Nat}(hp:P b):∀ {l:List Ex} {off:Nat},RepL P w b off l→RepL P w' b off l
 | [],off,_=>trivial
 | e :: r,off,h=>by
  obtain ⟨⟨cs,h7,hc,he⟩,hr⟩:=h
  exact ⟨⟨cs,h7,hc.keepC hp hs,RepE.keepC hs he⟩,RepL.keepC hs hp hr⟩
theorem RepA.keepC {P:Nat→Prop}{w w':World}(hs:KC P w w'){b:Nat}(hp:P b):∀ {l:List Ex} {off:Nat} {ops:List (List UInt8 × List (List UInt8))},RepA P w b off ops l→RepA P w' b off ops l
 | [],off,ops,_=>trivial
 | e :: r,off,ops,h=>by
  obtain ⟨op,ns,q,A,c,cs,e1,h1,h2,h3,h4,h7,hc,hn,he,hr⟩:=h
  exact ⟨op,ns,q,A,c,cs,e1,h1,h2,h3,h4,h7,hc.keepC hp hs,hn.keepC hs,RepE.keepC hs he,RepA.keepC hs hp hr⟩
end
theorem RepE.shape {P:Nat→Prop}{w:World}:∀ {e:Ex} {cs:List Value},RepE P w e cs→∃ (k n:Int) (s t:ByteArray) (A0:Option Addr) (n0 c0:Nat) (A1:Option Addr) (n1 c1:Nat) (A2:Option Addr) (n2 c2:Nat),cs=[.int .i64 k,.int .i64 n,.string s,.string t,.slice A0 n0 c0,.slice A1 n1 c1,.slice A2 n2 c2]
 | .mk _ _ _ _ _ _ _ _,_,h=>by
  obtain ⟨An,cn,Al,cl,Aa,ca,e,_⟩:=h
  exact ⟨_,_,_,_,_,_,_,_,_,_,_,_,_,e⟩
structure Pt (M:Ex→Prop) (P:Nat→Prop) (w0:World) where
 x:Ex
 cs:List Value
 rep:RepE P w0 x cs
 mem:M x
set_option maxRecDepth 100000 in
set_option maxHeartbeats 2000000 in
theorem parts_in (F:Fence)(n:Nat)(hF:F.fn 94)(hro:F.round=none)(hn:1≤n)(l Bn:Nat)(P:Nat→Prop)(e:Ex)(w0:World)(J Jx:List (Pt (·∈e.parts) P w0)→World→Prop)
  (hJ:∀ pre A o,J pre A→J pre (A.alloc o))
  (hY:∀ pre (x:Pt (·∈e.parts) P w0) W,J pre W→YieldAt F (n - 1) Tryz.prog l #[.agg x.cs.toArray] W fun e W' =>
   (e=.returned (.bool true)∧J (pre++[x]) W'∧KC P W W')∨(e=.returned (.bool false)∧Jx (pre++[x]) W'))
  (W:World) (cs:List Value) (hB:CellsAt W Bn 0 cs) (hbn:P Bn) (hw:KC P w0 W) (hre:RepE P w0 e cs) (h0:J [] W) :
  CallsIn F n Tryz.prog 94 #[.func (.yield l) #[] #[],.pointer (some ⟨Bn,0,none⟩)] W fun r W'=>(∃ v,r=.returned v) ∧
   ((∃ ys:List (Pt (·∈e.parts) P w0),ys.map Pt.x=e.parts∧J ys W'∧KC P W W')∨(∃ pre:List (Pt (·∈e.parts) P w0),pre.map Pt.x <+: e.parts∧Jx pre W')):=by
 obtain ⟨ek,en,es,et,ens,el,eops,ebs⟩:=e
 obtain ⟨An,cn,Al,cl,Aa,ca,rfl,hfit,hnames,hl,ha,ho⟩:=hre
 have HC5:Hid (∀ wr,KC P W wr→wr.cell? ⟨Bn,5,none⟩=some (.slice Al el.length cl)):=fun wr h=>(h.2 _ _ _ hbn (hB 5 _ rfl)).1
 have HC6:Hid (∀ wr,KC P W wr→wr.cell? ⟨Bn,6,none⟩=some (.slice Aa ebs.length ca)):=fun wr h=>(h.2 _ _ _ hbn (hB 6 _ rfl)).1
 have c5:=HC5.out W (KC.refl _ _)
 have HL:=Lib.hid hl
 have HA:=Lib.hid ha
 have HO:=Lib.hid ho
 have HY:=Lib.hid hY
 have HW:=Lib.hid hw
 have hlb:el.length≤maxLen∧ebs.length≤maxLen:=⟨Nat.le_trans hfit.hcl.1 hfit.hcl.2,Nat.le_trans hfit.hca.1 hfit.hca.2⟩
 obtain ⟨nl,hnl⟩:∃ nl,nl=el.length:=⟨_,rfl⟩
 obtain ⟨nb,hnb⟩:∃ nb,nb=ebs.length:=⟨_,rfl⟩
 have HNL:=Lib.hid hnl
 have HNB:=Lib.hid hnb
 rw [← hnl] at c5 HC5 hlb
 rw [← hnb] at HC6 hlb
 unfold maxLen at hlb
 obtain ⟨hlb1,hlb2⟩:=hlb
 clear hl ha ho hY hw hB hfit hnames hnl hnb
 refine callsIn_of_wp Tryz.func94 rfl hF ?_ hro
 simp only [Tryz.ntmps94,List.size_toArray,List.length_cons,List.length_nil,Nat.reduceAdd,Nat.reduceSub,Array.replicate_succ,Array.replicate_zero,List.push_toArray,List.append_toArray,List.nil_append,List.cons_append]
 gi_wp2
 gi_loopw [10] (fun i wr=>∃ (k:Nat) (pre:List (Pt (·∈(Ex.mk ek en es et ens el eops ebs).parts) P w0)),k≤nl∧i=.int .i64 (k:Int)∧Hid (pre.map Pt.x=el.take k)∧Hid (J pre wr)∧Hid (KC P W wr)) (fun i _=>nl - (intOf i).toNat)
 case atStart=>exact ⟨0,[],Nat.zero_le _,rfl,Lib.hid (by simp),Lib.hid h0,Lib.hid (KC.refl _ _)⟩
 case round =>
  clear c5
  obtain ⟨k,pre,hk,rfl,hpre,hJs,hkc⟩:=hrel
  by_cases hkl:k < nl
  ·have hkl':k < el.length:=by rw [← HNL.out];exact hkl
   obtain ⟨b,off,rfl,hp,hlt,hr⟩:=HL.out (List.ne_nil_of_length_pos (by omega))
   obtain ⟨cs,h7,hc,he⟩:=RepL.at hr (List.getElem?_eq_getElem hkl')
   obtain ⟨xk,xn,xs,xt,A0,n0,m0,A1,n1,m1,A2,n2,m2,rfl⟩:=he.shape
   have HX:=Lib.hid he
   have hcw:=(hc.keepC hp HW.out).keepC hp hkc.out
   have c5:=HC5.out wr hkc.out
   have d0:=hcw 0 _ rfl
   have d1:=hcw 1 _ rfl
   have d2:=hcw 2 _ rfl
   have d3:=hcw 3 _ rfl
   have d4:=hcw 4 _ rfl
   have d5:=hcw 5 _ rfl
   have d6:=hcw 6 _ rfl
   rw [Nat.add_zero] at d0
   have i0:(0:Int)≤(k:Int):=by omega
   have i1:(k:Int) < (nl:Int):=by omega
   have HTk:Hid (el.take (k+1)=el.take k++[el[k]]):=Lib.hid (by rw [List.take_add_one,List.getElem?_eq_getElem hkl'];rfl)
   obtain ⟨fn,tmps,assign,body,hy,hR⟩:=HY.out pre ⟨el[k],_,he,List.mem_append_left _ (List.getElem_mem hkl')⟩ (wr.alloc (.cells #[.int .i64 xk,.int .i64 xn,.string xs,.string xt,.slice A0 n0 m0,.slice A1 n1 m1,.slice A2 n2 m2] 27)) (hJ _ _ _ hJs.out)
   have HR:=Lib.hid hR
   dsimp only at hy
   clear hcw hc hr hp hlt hR
   gi_wp2
   have HK1:Hid (KC P W (wr.alloc (.cells #[.int .i64 xk,.int .i64 xn,.string xs,.string xt,.slice A0 n0 m0,.slice A1 n1 m1,.slice A2 n2 m2] 27))):=Lib.hid (hkc.out.trans (KC.alloc _ _ _))
   refine HR.out.mono ?_
   rintro e W3 (⟨rfl,hJ3,hk3⟩ | ⟨rfl,hJx3⟩)
   ·have HJ3:=Lib.hid hJ3
    have HK3:=Lib.hid (HK1.out.trans hk3)
    clear hJ3 hk3
    gi_wp2
    go_roundw
    case rel=>exact ⟨k+1,pre++[⟨el[k],_,HX.out,List.mem_append_left _ (List.getElem_mem hkl')⟩],by omega,by go_num,Lib.hid (by rw [HTk.out,List.map_append,hpre.out];rfl),HJ3,HK3⟩
    case measure=>simp [intOf];omega
   ·gi_wp2
    refine bodyPost_ret (results_none rfl _ _ _) rfl ?_
    exact ⟨⟨_,rfl⟩,.inr ⟨_,by
     refine List.IsPrefix.trans ?_ (List.prefix_append el ebs)
     rw [List.map_append,hpre.out]
     show el.take k++[el[k]] <+: el
     rw [← HTk.out]
     exact List.take_prefix _ _,hJx3⟩⟩
  ·obtain rfl:k=nl:=by omega
   have c5:=HC5.out wr hkc.out
   have c6:=HC6.out wr hkc.out
   have hall:Hid (pre.map Pt.x=el):=Lib.hid (by have:=hpre.out;rwa [HNL.out,List.take_length] at this)
   gi_wp2
   gi_loopw [22] (fun i wr=>∃ (j:Nat) (post:List (Pt (·∈(Ex.mk ek en es et ens el eops ebs).parts) P w0)),j≤nb∧i=.int .i64 (j:Int)∧Hid (post.map Pt.x=el++ebs.take j)∧Hid (J post wr)∧Hid (KC P W wr)) (fun i _=>nb - (intOf i).toNat)
   case atStart=>exact ⟨0,pre,Nat.zero_le _,rfl,Lib.hid (by rw [hall.out];simp),hJs,hkc⟩
   case round =>
    clear c5 c6 hall hpre hJs hkc
    obtain ⟨j,pre,hk,rfl,hpre,hJs,hkc⟩:=hrel
    by_cases hkl:j < nb
    ·have hkl':j < ebs.length:=by rw [← HNB.out];exact hkl
     obtain ⟨b,off,rfl,hp,hlt,hr⟩:=HA.out (List.ne_nil_of_length_pos (by omega))
     obtain ⟨o,hoo,A,c,cs,ho1,ho2,ho3,ho4,h7,hc,hnm,he⟩:=RepA.at hr (List.getElem?_eq_getElem hkl')
     obtain ⟨xk,xn,xs,xt,A0,n0,m0,A1,n1,m1,A2,n2,m2,rfl⟩:=he.shape
     have HX:=Lib.hid he
     have hcw:=(hc.keepC hp HW.out).keepC hp hkc.out
     have c6:=HC6.out wr hkc.out
     have a0:=hcw 0 _ rfl
     have a1:=hcw 1 _ rfl
     have d0:=hcw 2 _ rfl
     have d1:=hcw 3 _ rfl
     have d2:=hcw 4 _ rfl
     have d3:=hcw 5 _ rfl
     have d4:=hcw 6 _ rfl
     have d5:=hcw 7 _ rfl
     have d6:=hcw 8 _ rfl
     rw [Nat.add_zero] at a0
     have i0:(0:Int)≤(j:Int):=by omega
     have i1:(j:Int) < (nb:Int):=by omega
     have HTk:Hid (ebs.take (j+1)=ebs.take j++[ebs[j]]):=Lib.hid (by rw [List.take_add_one,List.getElem?_eq_getElem hkl'];rfl)
     obtain ⟨O,hO⟩:∃ O,O=strB o.1:=⟨_,rfl⟩
     rw [← hO] at a0
     obtain ⟨on,hon⟩:∃ on,on=o.2.length:=⟨_,rfl⟩
     rw [← hon] at a1
     obtain ⟨fn,tmps,assign,body,hy,hR⟩:=HY.out pre ⟨ebs[j],_,he,List.mem_append_right _ (List.getElem_mem hkl')⟩ (wr.alloc (.cells #[.string O,.slice A on c,.int .i64 xk,.int .i64 xn,.string xs,.string xt,.slice A0 n0 m0,.slice A1 n1 m1,.slice A2 n2 m2] 57)) (hJ _ _ _ hJs.out)
     have HR:=Lib.hid hR
     dsimp only at hy
     have HK1:Hid (KC P W (wr.alloc (.cells #[.string O,.slice A on c,.int .i64 xk,.int .i64 xn,.string xs,.string xt,.slice A0 n0 m0,.slice A1 n1 m1,.slice A2 n2 m2] 57))):=Lib.hid (hkc.out.trans (KC.alloc _ _ _))
     clear hcw hc hr hp hlt hR hO hon ho1 ho2 ho3 ho4 hnm hoo
     gi_wp2
     refine HR.out.mono ?_
     rintro e W3 (⟨rfl,hJ3,hk3⟩ | ⟨rfl,hJx3⟩)
     ·have HJ3:=Lib.hid hJ3
      have HK3:=Lib.hid (HK1.out.trans hk3)
      clear hJ3 hk3
      gi_wp2
      go_roundw
      case rel=>exact ⟨j+1,pre++[⟨ebs[j],_,HX.out,List.mem_append_right _ (List.getElem_mem hkl')⟩],by omega,by go_num,Lib.hid (by rw [HTk.out,List.map_append,hpre.out,List.append_assoc];rfl),HJ3,HK3⟩
      case measure=>simp [intOf];omega
     ·gi_wp2
      refine bodyPost_ret (results_none rfl _ _ _) rfl ?_
      exact ⟨⟨_,rfl⟩,.inr ⟨_,by
       rw [List.map_append,hpre.out,List.append_assoc]
       show el++(ebs.take j++[ebs[j]]) <+: el++ebs
       rw [← HTk.out]
       exact (List.prefix_append_right_inj el).2 (List.take_prefix _ _),hJx3⟩⟩
    ·obtain rfl:j=nb:=by omega
     have c6:=HC6.out wr hkc.out
     gi_wp2
     go_end0
     exact ⟨⟨_,rfl⟩,.inl ⟨pre,by have:=hpre.out;rwa [HNB.out,List.take_length] at this,hJs.out,hkc.out⟩⟩
end Go.Proofs.YtpjabnemkmdobaaGreatDoor
namespace Go.Proofs.YtpjabnemkmdobaaGreatDoor
open Go.RowKit
theorem spacedP_snoc (ns:List Txt)(x:Txt):spacedP (ns++[x])=spacedP ns++[[32],x]:=by unfold spacedP;rw [List.flatMap_append];rfl
theorem take_succ_of {α:Type}{l:List α}{k:Nat}(h:k < l.length):l.take (k+1)=l.take k++[l[k]]:=by rw [List.take_add_one,List.getElem?_eq_getElem h];rfl
theorem tot_prefix {a b:List Txt}(h:a <+: b):tot a≤tot b:=by
 obtain ⟨c,rfl⟩:=h
 rw [tot_append];omega
set_option maxRecDepth 100000 in
set_option maxHeartbeats 2000000 in
theorem spaced_any (B p x m:Nat)(lim:Int)(bs:Txt)(A:Option Addr)(c:Nat)(ns:List Txt)(w:World)(h:Pr B p x m lim bs w)(hN:NamesAt (fun b=>b < B) w A ns)(hn:ns.length≤maxLen)(hlen:bs.length+tot (spacedP ns)≤140737488355328) :
  Calls Tryz.prog 69 #[.pointer (some ⟨p,0,none⟩),.slice A ns.length c] w fun e w'=>e=.returned (.tuple #[])∧PrF B p x m lim (wrs lim bs (spacedP ns)) w w':=by
 have HP:=Lib.hid h
 have HN:=Lib.hid hN
 have HLn:=Lib.hid hlen
 obtain ⟨n,hnn⟩:∃ n,n=ns.length:=⟨_,rfl⟩
 have HL:=Lib.hid hnn
 unfold maxLen at hn
 rw [← hnn] at hn ⊢
 clear h hN hlen hnn
 go_enter Tryz.func69,Tryz.ntmps69
 go_wp2_with fail
 go_loopw [8] (fun i wr=>∃ k:Nat,k≤n∧i=.int .i64 (k:Int)∧Hid (PrF B p x m lim (wrs lim bs (spacedP (ns.take k))) w wr)) (fun i _=>n - (intOf i).toNat)
 case atStart=>exact ⟨0,Nat.zero_le _,rfl,Lib.hid ⟨HP.out,FrP.refl _ _ _⟩⟩
 case round =>
  obtain ⟨k,hk,rfl,hPF⟩:=hrel
  have i0:(0:Int)≤(k:Int):=by omega
  by_cases hkl:k < n
  ·have hkl':k < ns.length:=by rw [← HL.out];exact hkl
   have i1:(k:Int) < (n:Int):=by omega
   obtain ⟨b,off,rfl,_,_,hcc⟩:=(HN.out.keep hPF.out.2.same) (List.ne_nil_of_length_pos (by omega))
   have c0:=hcc k _ (List.getElem?_eq_getElem hkl')
   obtain ⟨s,hs⟩:∃ s,s=ns[k]:=⟨_,rfl⟩
   rw [← hs] at c0
   have HT:Hid (spacedP (ns.take (k+1))=spacedP (ns.take k)++[[32],s]):=Lib.hid (by rw [take_succ_of hkl',spacedP_snoc,hs])
   have HB:Hid ((wrs lim bs (spacedP (ns.take k))).length+tot [[32],s]≤140737488355328):=Lib.hid (by
    have h1:=wrs_len lim (spacedP (ns.take k)) bs
    have h2:tot (spacedP (ns.take k)++[[32],s])≤tot (spacedP ns):=by
     rw [← HT.out]
     refine tot_prefix ⟨spacedP (ns.drop (k+1)),?_⟩
     unfold spacedP
     rw [← List.flatMap_append,List.take_append_drop]
    rw [tot_append] at h2
    have:=HLn.out
    omega)
   obtain ⟨bs1,hb1⟩:∃ b,b=wrs lim bs (spacedP (ns.take k)):=⟨_,rfl⟩
   have HT2:Hid (wrs lim bs (spacedP (ns.take (k+1)))=wrs lim bs1 [[32],s]):=Lib.hid (by rw [HT.out,wrs_append,hb1])
   rw [← hb1] at hPF HB
   clear hs hb1 hcc
   go_wp2_with fail
   refine (write_new [[32],s] wr hPF.out (by simp) HB.out).mono ?_
   rintro e w2 ⟨rfl,hp2,hf2⟩
   have HP2:Hid (PrF B p x m lim (wrs lim bs (spacedP (ns.take (k+1)))) w w2):=Lib.hid (by rw [HT2.out];exact hp2)
   clear hp2 hf2 c0
   go_wp2_with fail
   go_roundw
   case rel=>exact ⟨k+1,by omega,by go_num,HP2⟩
   case measure=>simp [intOf];omega
  ·obtain rfl:k=n:=by omega
   have HE:Hid (PrF B p x m lim (wrs lim bs (spacedP ns)) w wr):=Lib.hid (by have:=hPF.out;rwa [HL.out,List.take_length] at this)
   go_wp2_with fail
   go_end0
   exact ⟨rfl,HE.out⟩
def PartsAt (B:Nat)(w:World)(A:Option Addr)(l:List Ex):Prop :=
 l≠[]→∃ b off,A=some ⟨b,off,none⟩∧b < B∧b < w.heap.size∧∀ j e,l[j]?=some e→∃ k n s t A0 n0 c0 A1 n1 c1 A2 n2 c2,RepE (fun b=>b < B) w e [.int .i64 k,.int .i64 n,.string s,.string t,.slice A0 n0 c0,.slice A1 n1 c1,.slice A2 n2 c2] ∧
  w.cell? ⟨b,off+j*7,none⟩=some (.int .i64 k)∧w.cell? ⟨b,off+j*7+1,none⟩=some (.int .i64 n)∧w.cell? ⟨b,off+j*7+2,none⟩=some (.string s)∧w.cell? ⟨b,off+j*7+3,none⟩=some (.string t) ∧
  w.cell? ⟨b,off+j*7+4,none⟩=some (.slice A0 n0 c0)∧w.cell? ⟨b,off+j*7+5,none⟩=some (.slice A1 n1 c1)∧w.cell? ⟨b,off+j*7+6,none⟩=some (.slice A2 n2 c2)
theorem PartsAt.fr {B p:Nat}{w w':World}{A:Option Addr}{l:List Ex}(h:PartsAt B w A l)(hf:FrP B p w w'):PartsAt B w' A l:=fun h0=>by
 obtain ⟨b,off,e,hb,hlt,hc⟩:=h h0
 have k:∀ o,w'.cell? ⟨b,o,none⟩=w.cell? ⟨b,o,none⟩:=fun o=>hf.same.cell (P:=fun b=>b < B) hb hlt o
 refine ⟨b,off,e,hb,Nat.lt_of_lt_of_le hlt hf.2.2,fun j e hj=>?_⟩
 obtain ⟨k0,n,s,t,A0,n0,c0,A1,n1,c1,A2,n2,c2,hr,d0,d1,d2,d3,d4,d5,d6⟩:=hc j e hj
 exact ⟨k0,n,s,t,A0,n0,c0,A1,n1,c1,A2,n2,c2,hr.keep hf.same,(k _).trans d0,(k _).trans d1,(k _).trans d2,(k _).trans d3,(k _).trans d4,(k _).trans d5,(k _).trans d6⟩
theorem RepL.parts {B:Nat}{w:World}{b off:Nat}{l:List Ex}(h:RepL (fun b=>b < B) w b off l)(hb:b < B)(hlt:b < w.heap.size):PartsAt B w (some ⟨b,off,none⟩) l:=fun _=>by
 refine ⟨b,off,rfl,hb,hlt,fun j e hj=>?_⟩
 obtain ⟨cs,h7,hc,hr⟩:=RepL.at h hj
 obtain ⟨xk,xn,xs,xt,A0,p0,r0,A1,p1,r1,A2,p2,r2,rfl⟩:=hr.shape
 exact ⟨xk,xn,xs,xt,A0,p0,r0,A1,p1,r1,A2,p2,r2,hr,hc 0 _ rfl,hc 1 _ rfl,hc 2 _ rfl,hc 3 _ rfl,hc 4 _ rfl,hc 5 _ rfl,hc 6 _ rfl⟩
theorem behindP_snoc:∀ (l:List LvP) (ts:List Txt) (k:Nat) (q:LvP) (t:Txt),l[k]?=some q→ts[k]?=some t→behindP l (ts.take (k+1))=behindP l (ts.take k)++([t]++atP 0 q)
 | [],_,k,q,t,h,_=>by simp at h
 | a :: r,[],k,q,t,_,h=>by simp at h
 | a :: r,u :: us,0,q,t,h1,h2=>by
  simp at h1 h2
  subst h1;subst h2
  simp [behindP]
 | a :: r,u :: us,k+1,q,t,h1,h2=>by
  have:=behindP_snoc r us k q t (by simpa using h1) (by simpa using h2)
  simp only [List.take_succ_cons,behindP,this,List.append_assoc]
theorem behindP_prefix:∀ (l:List LvP) (ts:List Txt) (k:Nat),behindP l (ts.take k) <+: behindP l ts
 | [],ts,k=>by simp [behindP]
 | a :: r,[],k=>by simp [behindP]
 | a :: r,u :: us,0=>by simp [behindP]
 | a :: r,u :: us,k+1=>by
  simp only [List.take_succ_cons,behindP]
  exact (List.prefix_append_right_inj _).2 ((List.prefix_append_right_inj _).2 (behindP_prefix r us k))
set_option maxRecDepth 100000 in
set_option maxHeartbeats 4000000 in
theorem behind_any (B p x m:Nat)(lim:Int)(bs:Txt)(A:Option Addr)(c g:Nat)(l:List Ex)(ts:List Txt)(w:World)(h:Pr B p x m lim bs w)(hS:∀ e∈l,ExprSays e)(hP:PartsAt B w A l)(hg:PcsAt w g ts)(hl:ts.length≤l.length∧l.length≤maxLen)(ht:ts.length≤1000)(hlen:bs.length+tot (behindP (l.map Ex.lp) ts)≤140737488355328) :
  Calls Tryz.prog 34 #[.pointer (some ⟨p,0,none⟩),.slice A l.length c,.slice (some ⟨g,0,none⟩) ts.length ts.length] w fun e w'=>e=.returned (.tuple #[])∧PrF B p x m lim (wrs lim bs (behindP (l.map Ex.lp) ts)) w w':=by
 have HP:=Lib.hid h
 have HPa:=Lib.hid hP
 have HG:=Lib.hid hg
 have HGn:=Lib.hid (hg.ne h)
 have HLn:=Lib.hid hlen
 have HS:=Lib.hid hS
 obtain ⟨n,hnn⟩:∃ n,n=ts.length:=⟨_,rfl⟩
 obtain ⟨ml,hml⟩:∃ n,n=l.length:=⟨_,rfl⟩
 have HL:=Lib.hid hnn
 have HM:=Lib.hid hml
 obtain ⟨hl1,hl2⟩:=hl
 unfold maxLen at hl2
 rw [← hnn] at ht hl1 ⊢
 rw [← hml] at hl1 hl2 ⊢
 clear h hP hg hlen hS hnn hml
 go_enter Tryz.func34,Tryz.ntmps34
 go_wp2_with fail
 go_loopw [10] (fun i wr=>∃ k:Nat,k≤n∧i=.int .i64 (k:Int)∧Hid (PrF B p x m lim (wrs lim bs (behindP (l.map Ex.lp) (ts.take k))) w wr)) (fun i _=>n - (intOf i).toNat)
 case atStart=>exact ⟨0,Nat.zero_le _,rfl,Lib.hid ⟨by rw [List.take_zero];cases l <;> exact HP.out,FrP.refl _ _ _⟩⟩
 case round =>
  obtain ⟨k,hk,rfl,hPF⟩:=hrel
  have i0:(0:Int)≤(k:Int):=by omega
  by_cases hkl:k < n
  ·have hkt:k < ts.length:=by rw [← HL.out];exact hkl
   have hke:k < l.length:=by rw [← HM.out];omega
   have i1:(k:Int) < (n:Int):=by omega
   have i2:(k:Int) < (ml:Int):=by omega
   have c0:=(HG.out.fr hPF.out.2 HGn.out).cell (List.getElem?_eq_getElem hkt)
   obtain ⟨s,hs⟩:∃ s,s=ts[k]:=⟨_,rfl⟩
   obtain ⟨e,he⟩:∃ e,e=l[k]:=⟨_,rfl⟩
   rw [← hs] at c0
   have HE:=Lib.hid (HS.out e (by rw [he];exact List.getElem_mem hke))
   have HT:Hid (behindP (l.map Ex.lp) (ts.take (k+1))=behindP (l.map Ex.lp) (ts.take k)++([s]++atP 0 e.lp)):=Lib.hid (behindP_snoc _ _ _ _ _ (by rw [List.getElem?_map,List.getElem?_eq_getElem hke,he];rfl) (by rw [List.getElem?_eq_getElem hkt,hs]))
   have HB:Hid ((wrs lim bs (behindP (l.map Ex.lp) (ts.take k))).length+(s.length+tot (atP 0 e.lp))≤140737488355328):=Lib.hid (by
    have h1:=wrs_len lim (behindP (l.map Ex.lp) (ts.take k)) bs
    have h2:=tot_prefix (behindP_prefix (l.map Ex.lp) ts (k+1))
    rw [HT.out,tot_append,tot_append] at h2
    have h3:tot [s]=s.length:=rfl
    have:=HLn.out
    omega)
   have HPk:Hid (PartsAt B wr A l):=Lib.hid (HPa.out.fr hPF.out.2)
   obtain ⟨bs1,hb1⟩:∃ b,b=wrs lim bs (behindP (l.map Ex.lp) (ts.take k)):=⟨_,rfl⟩
   have HT2:Hid (wrs lim bs (behindP (l.map Ex.lp) (ts.take (k+1)))=wrs lim (wrs lim bs1 [s]) (atP 0 e.lp)):=Lib.hid (by rw [HT.out,wrs_append,wrs_append,hb1])
   rw [← hb1] at hPF HB
   have HB1:Hid (bs1.length+tot [s]≤140737488355328):=Lib.hid (by have h3:tot [s]=s.length:=rfl;have:=HB.out;omega)
   have HB2:Hid ((wrs lim bs1 [s]).length+tot (atP 0 e.lp)≤140737488355328):=Lib.hid (by have h3:tot [s]=s.length:=rfl;have h4:=wrs_len lim [s] bs1;have:=HB.out;omega)
   have HEl:Hid (l[k]?=some e):=Lib.hid (by rw [he];exact List.getElem?_eq_getElem hke)
   have HNe:Hid (l≠[]):=Lib.hid (List.ne_nil_of_length_pos (by omega))
   clear hs hb1 he
   go_wp2_with fail
   refine (write_new [s] wr hPF.out (by simp) HB1.out).mono ?_
   rintro e' w2 ⟨rfl,hp2,hf2⟩
   have HP2:=Lib.hid hp2
   obtain ⟨b,off,rfl,hb,hlt,hcc⟩:=HPk.out.fr hf2 HNe.out
   obtain ⟨k0,n0,s0,t0,B0,q0,r0,B1,q1,r1,B2,q2,r2,hr,d0,d1,d2,d3,d4,d5,d6⟩:=hcc k e HEl.out
   have HC:=Lib.hid (HE.out B p x m lim _ 0 _ w2 hp2.1 hr HB2.out)
   clear hp2 hf2 c0 hcc hr hb hlt
   go_wp2_with fail
   refine HC.out.mono ?_
   rintro e' w3 ⟨rfl,hp3⟩
   have HP3:Hid (PrF B p x m lim (wrs lim bs (behindP (l.map Ex.lp) (ts.take (k+1)))) w w3):=Lib.hid (by rw [HT2.out];exact HP2.out.then hp3)
   clear hp3 d0 d1 d2 d3 d4 d5 d6 HC
   go_wp2_with fail
   go_roundw
   case rel=>exact ⟨k+1,by omega,by go_num,HP3⟩
   case measure=>simp [intOf];omega
  ·obtain rfl:k=n:=by omega
   have HE:Hid (PrF B p x m lim (wrs lim bs (behindP (l.map Ex.lp) ts)) w wr):=Lib.hid (by have:=hPF.out;rwa [HL.out,List.take_length] at this)
   go_wp2_with fail
   go_end0
   exact ⟨rfl,HE.out⟩
theorem wrs_le (lim:Int)(ps:List Txt)(bs:Txt){T U:Nat}(h:bs.length+T≤140737488355328)(hT:T=tot ps+U):(wrs lim bs ps).length+U≤140737488355328:=by
 have:=wrs_len lim ps bs;omega
theorem wrs_fit {bs:Txt}{ps:List Txt}{T U:Nat}(h:bs.length+T≤140737488355328)(hT:T=tot ps+U):bs.length+tot ps≤140737488355328:=by omega
set_option maxRecDepth 100000 in
set_option maxHeartbeats 4000000 in
theorem open_any (B p x m:Nat)(lim:Int)(bs:Txt)(v0 v1 v2 v3:Value)(An:Option Addr)(cn:Nat)(Al:Option Addr)(cl:Nat)(v6:Value)(kw:Txt)(g:Nat)(ns:List Txt)(l:List Ex)(ts:List Txt)(w:World)(h:Pr B p x m lim bs w)(hS:∀ e∈l,ExprSays e)
  (hN:NamesAt (fun b=>b < B) w An ns) (hn:ns.length≤maxLen) (hP:PartsAt B w Al l) (hg:PcsAt w g ts) (hl:ts.length≤l.length∧l.length≤maxLen) (ht:ts.length≤1000) (hlen:bs.length+tot (openP kw ns (l.map Ex.lp) ts)≤140737488355328) :
  Calls Tryz.prog 30 #[.pointer (some ⟨p,0,none⟩),.agg #[v0,v1,v2,v3,.slice An ns.length cn,.slice Al l.length cl,v6],.string (strB kw),.slice (some ⟨g,0,none⟩) ts.length ts.length] w fun e w'=>e=.returned (.tuple #[])∧PrF B p x m lim (wrs lim bs (openP kw ns (l.map Ex.lp) ts)) w w':=by
 obtain ⟨W1,hW1⟩:∃ W1,w.alloc (.cells #[v0,v1,v2,v3,.slice An ns.length cn,.slice Al l.length cl,v6] 27)=W1:=⟨_,rfl⟩
 have HF1:Hid (PrF B p x m lim bs w W1):=Lib.hid (by rw [← hW1];exact (PrF.refl h).below ((Below.refl _ _).alloc (Nat.le_refl _) _))
 have HE1:Hid (EB W1 w.heap.size v0 v1 v2 v3 (.slice An ns.length cn) (.slice Al l.length cl) v6):=Lib.hid (by rw [← hW1];exact EB.new w _ _ _ _ _ _ _)
 have HG:Hid (PcsAt W1 g ts):=Lib.hid (hg.fr HF1.out.2 (hg.ne h))
 have HGn:=Lib.hid (hg.ne h)
 have hgp:w.heap.size≠p:=by have:=h.ltp;omega
 have HT:Hid (tot (openP kw ns (l.map Ex.lp) ts)=tot [kw]+(tot (spacedP ns)+tot (behindP (l.map Ex.lp) ts))):=Lib.hid (by unfold openP;rw [tot_append,tot_append])
 have HL1:=Lib.hid (wrs_fit hlen HT.out)
 have HL2:=Lib.hid (wrs_le lim [kw] bs hlen HT.out)
 have HL3:=Lib.hid (wrs_fit HL2.out rfl)
 have HL4:=Lib.hid (wrs_le lim (spacedP ns) _ HL2.out rfl)
 have HQ:Hid (wrs lim bs (openP kw ns (l.map Ex.lp) ts)=wrs lim (wrs lim (wrs lim bs [kw]) (spacedP ns)) (behindP (l.map Ex.lp) ts)):=Lib.hid (by unfold openP;rw [wrs_append,wrs_append])
 have HS:=Lib.hid hS
 have HN:=Lib.hid (fun (bs':Txt) (w':World) (h1:PrF B p x m lim bs' w w') h2=>spaced_any B p x m lim bs' An cn ns w' h1.1 (hN.keep h1.2.same) hn h2)
 have HBh:=Lib.hid (fun (bs':Txt) (w':World) (h1:PrF B p x m lim bs' w w') h2=>behind_any B p x m lim bs' Al cl g l ts w' h1.1 HS.out (hP.fr h1.2) (hg.fr h1.2 HGn.out) hl ht h2)
 obtain ⟨m0,hm0⟩:∃ n,n=ns.length:=⟨_,rfl⟩
 obtain ⟨m1,hm1⟩:∃ n,n=l.length:=⟨_,rfl⟩
 obtain ⟨m2,hm2⟩:∃ n,n=ts.length:=⟨_,rfl⟩
 rw [← hm0] at HN HE1 hW1 ⊢
 rw [← hm1,← hm2] at HBh
 rw [← hm1] at HE1 hW1
 rw [← hm1,← hm2]
 clear h hN hP hg hlen hS hm0 hm1 hm2 hl ht hn
 go_enter Tryz.func30,Tryz.ntmps30
 go_wp2_with fail
 clear hW1
 refine (write_new [kw] W1 HF1.out (by simp) HL1.out).mono ?_
 rintro e w2 ⟨rfl,hp2,hf2⟩
 have HP2:=Lib.hid hp2
 have HE2:=Lib.hid (HE1.out.fr' hf2 hgp)
 have d4:=HE2.out.c4
 clear hp2 hf2
 go_wp2_with fail
 refine (HN.out _ w2 HP2.out HL3.out).mono ?_
 rintro e w3 ⟨rfl,hp3⟩
 have HP3:=Lib.hid (HP2.out.then hp3)
 have HE3:=Lib.hid (HE2.out.fr' hp3.2 hgp)
 have d5:=HE3.out.c5
 clear hp3 d4
 go_wp2_with fail
 refine (HBh.out _ w3 HP3.out HL4.out).mono ?_
 rintro e w4 ⟨rfl,hp4⟩
 have HP4:=Lib.hid (HP3.out.then hp4)
 clear hp4 d5
 go_wp2_with fail
 go_end0
 exact ⟨rfl,by rw [HQ.out];exact HP4.out⟩
set_option maxRecDepth 100000 in
set_option maxHeartbeats 4000000 in
theorem call_any (B p x m:Nat)(lim:Int)(bs:Txt)(k n:Int)(s t:ByteArray)(A0:Option Addr)(n0 c0:Nat)(A1:Option Addr)(n1 c1:Nat)(A2:Option Addr)(n2 c2:Nat)(g:Nat)(e:Ex)(ps:List Txt)(w:World)(h:Pr B p x m lim bs w)(hS:ExprSays e)
  (hre:RepE (fun b=>b < B) w e [.int .i64 k,.int .i64 n,.string s,.string t,.slice A0 n0 c0,.slice A1 n1 c1,.slice A2 n2 c2]) (hg:PcsAt w g ps) (hn:ps.length≤1000) (hlen:bs.length+tot (callP ps e.lp)≤140737488355328) :
  Calls Tryz.prog 39 #[.pointer (some ⟨p,0,none⟩),.agg #[.int .i64 k,.int .i64 n,.string s,.string t,.slice A0 n0 c0,.slice A1 n1 c1,.slice A2 n2 c2],.slice (some ⟨g,0,none⟩) ps.length ps.length] w fun e' w'=>e'=.returned (.tuple #[])∧PrF B p x m lim (wrs lim bs (callP ps e.lp)) w w':=by
 obtain ⟨W1,hW1⟩:∃ W1,w.alloc (.cells #[.int .i64 k,.int .i64 n,.string s,.string t,.slice A0 n0 c0,.slice A1 n1 c1,.slice A2 n2 c2] 27)=W1:=⟨_,rfl⟩
 have HF1:Hid (PrF B p x m lim bs w W1):=Lib.hid (by rw [← hW1];exact (PrF.refl h).below ((Below.refl _ _).alloc (Nat.le_refl _) _))
 have HE1:Hid (EB W1 w.heap.size (.int .i64 k) (.int .i64 n) (.string s) (.string t) (.slice A0 n0 c0) (.slice A1 n1 c1) (.slice A2 n2 c2)):=Lib.hid (by rw [← hW1];exact EB.new w _ _ _ _ _ _ _)
 have hgp:w.heap.size≠p:=by have:=h.ltp;omega
 have HT:Hid (tot (callP ps e.lp)=tot ps+(tot [[32]]+tot (atP 5 e.lp))):=Lib.hid (by unfold callP;rw [tot_append,tot_append])
 have HL1:=Lib.hid (wrs_fit hlen HT.out)
 have HL2:=Lib.hid (wrs_le lim ps bs hlen HT.out)
 have HL3:=Lib.hid (wrs_fit HL2.out rfl)
 have HL4:=Lib.hid (wrs_le lim [[32]] _ HL2.out rfl)
 have HQ:Hid (wrs lim bs (callP ps e.lp)=wrs lim (wrs lim (wrs lim bs ps) [[32]]) (atP 5 e.lp)):=Lib.hid (by unfold callP;rw [wrs_append,wrs_append])
 have HW:Hid (Calls Tryz.prog 25 #[.pointer (some ⟨p,0,none⟩),.slice (some ⟨g,0,none⟩) ps.length ps.length] W1 fun e w'=>e=.returned (.tuple #[])∧PrF B p x m lim (wrs lim bs ps) W1 w'):=Lib.hid (write_any B p x m lim bs g ps W1 HF1.out.1 (hg.fr HF1.out.2 (hg.ne h)) (by omega) HL1.out)
 have HX:=Lib.hid (fun (bs':Txt) (w':World) (h1:PrF B p x m lim bs' w w') h2=>hS B p x m lim bs' 5 _ w' h1.1 (hre.keep h1.2.same) h2)
 obtain ⟨m2,hm2⟩:∃ n,n=ps.length:=⟨_,rfl⟩
 rw [← hm2] at HW ⊢
 clear h hg hlen hS hm2 hn hre
 go_enter Tryz.func39,Tryz.ntmps39
 go_wp2_with fail
 clear hW1
 refine HW.out.mono ?_
 rintro e w2 ⟨rfl,hp2⟩
 have HP2:=Lib.hid (HF1.out.then hp2)
 have HE2:=Lib.hid (HE1.out.fr' hp2.2 hgp)
 clear hp2
 go_wp2_with fail
 refine (write_new [[32]] w2 HP2.out (by simp) HL3.out).mono ?_
 rintro e w3 ⟨rfl,hp3,hf3⟩
 have HP3:=Lib.hid hp3
 have HE3:=Lib.hid (HE2.out.fr' hf3 hgp)
 have d0:=HE3.out.c0
 have d1:=HE3.out.c1
 have d2:=HE3.out.c2
 have d3:=HE3.out.c3
 have d4:=HE3.out.c4
 have d5:=HE3.out.c5
 have d6:=HE3.out.c6
 clear hp3 hf3
 go_wp2_with fail
 refine (HX.out _ w3 HP3.out HL4.out).mono ?_
 rintro e w4 ⟨rfl,hp4⟩
 have HP4:=Lib.hid (HP3.out.then hp4)
 clear hp4 d0 d1 d2 d3 d4 d5 d6
 go_wp2_with fail
 go_end0
 exact ⟨rfl,by rw [HQ.out];exact HP4.out⟩
theorem parts_of {B:Nat}{w:World}{l:List Ex}{Al:Option Addr}(h:l≠[]→∃ b off,Al=some ⟨b,off,none⟩∧b < B∧b < w.heap.size∧RepL (fun b=>b < B) w b off l):PartsAt B w Al l:=fun h0=>by
 obtain ⟨b,off,rfl,hb,hlt,hr⟩:=h h0
 exact RepL.parts hr hb hlt h0
set_option maxRecDepth 100000 in
set_option maxHeartbeats 4000000 in
theorem rule_fun (n:Int)(s t:Txt)(ns:List Txt)(l:List Ex)(ops:List (Txt × List Txt))(bs2:List Ex)(hS:∀ e∈l,ExprSays e)(hln:1≤l.length):RuleSays (.mk 4 n s t ns l ops bs2):=by
 intro B p x m lim bs cs w hP hre hlen
 have HRE:=Lib.hid hre
 obtain ⟨An,cn,Al,cl,Aa,ca,rfl,hf,hn,hl,ha,ho⟩:=hre
 show Calls Tryz.prog 29 #[.agg #[.int .i64 4,.int .i64 n,.string (strB s),.string (strB t),.slice An ns.length cn,.slice Al l.length cl,.slice Aa bs2.length ca],.pointer (some ⟨x,0,none⟩)] w _
 obtain ⟨W1,hW1⟩:∃ W1,w.alloc (.cells #[.int .i64 4,.int .i64 n,.string (strB s),.string (strB t),.slice An ns.length cn,.slice Al l.length cl,.slice Aa bs2.length ca] 27)=W1:=⟨_,rfl⟩
 have HF1:Hid (PrF B p x m lim bs w W1):=Lib.hid (by rw [← hW1];exact (PrF.refl hP).below ((Below.refl _ _).alloc (Nat.le_refl _) _))
 have HE1:Hid (EB W1 w.heap.size (.int .i64 4) (.int .i64 n) (.string (strB s)) (.string (strB t)) (.slice An ns.length cn) (.slice Al l.length cl) (.slice Aa bs2.length ca)):=Lib.hid (by rw [← hW1];exact EB.new w _ _ _ _ _ _ _)
 have e0:=HE1.out.c0
 have e1:=HE1.out.c1
 have e2:=HE1.out.c2
 have e3:=HE1.out.c3
 have e4:=HE1.out.c4
 have e5:=HE1.out.c5
 have e6:=HE1.out.c6
 have hx1:=HF1.out.1.cx
 have hgp:w.heap.size≠p:=by have:=hP.ltp;omega
 have hpcs:pcs (.mk 4 n s t ns l ops bs2)=openP [102,117,110] ns (l.map Ex.lp) [[32,45,62,32]]:=by rw [pcs_mk];rfl
 rw [hpcs] at hlen ⊢
 have HA:Hid (PrF B p x m lim bs w (W1.alloc (.cells ([[32,45,62,32]].map fun s=>Value.string (strB s)).toArray 9))):=Lib.hid (HF1.out.below ((Below.refl _ _).alloc (Nat.le_refl _) _))
 have HO:=Lib.hid (open_any B p x m lim bs (.int .i64 4) (.int .i64 n) (.string (strB s)) (.string (strB t)) An cn Al cl (.slice Aa bs2.length ca) [102,117,110] W1.heap.size ns l [[32,45,62,32]] (W1.alloc (.cells ([[32,45,62,32]].map fun s=>Value.string (strB s)).toArray 9)) HA.out.1 hS (hn.keep HA.out.2.same) (Nat.le_trans hf.hcn.1 hf.hcn.2) ((parts_of hl).fr HA.out.2) (heap_alloc_new W1 _) ⟨hln,Nat.le_trans hf.hcl.1 hf.hcl.2⟩ (by simp) hlen)
 clear hf hn hl ha ho hpcs hS hln hlen hP
 go_enter Tryz.func29,Tryz.ntmps29
 go_wp2_with fail
 clear hW1
 refine HO.out.mono ?_
 rintro e w2 ⟨rfl,hp2⟩
 have HR:=Lib.hid (HA.out.then hp2)
 clear hp2
 go_wp2_with fail
 go_end0
 exact ⟨rfl,HR.out⟩
set_option maxRecDepth 100000 in
set_option maxHeartbeats 4000000 in
theorem rule_let (n:Int)(s t:Txt)(ns:List Txt)(l:List Ex)(ops:List (Txt × List Txt))(bs2:List Ex)(hS:∀ e∈l,ExprSays e)(hln:2≤l.length):RuleSays (.mk 6 n s t ns l ops bs2):=by
 intro B p x m lim bs cs w hP hre hlen
 have HRE:=Lib.hid hre
 obtain ⟨An,cn,Al,cl,Aa,ca,rfl,hf,hn,hl,ha,ho⟩:=hre
 show Calls Tryz.prog 31 #[.agg #[.int .i64 6,.int .i64 n,.string (strB s),.string (strB t),.slice An ns.length cn,.slice Al l.length cl,.slice Aa bs2.length ca],.pointer (some ⟨x,0,none⟩)] w _
 obtain ⟨W1,hW1⟩:∃ W1,w.alloc (.cells #[.int .i64 6,.int .i64 n,.string (strB s),.string (strB t),.slice An ns.length cn,.slice Al l.length cl,.slice Aa bs2.length ca] 27)=W1:=⟨_,rfl⟩
 have HF1:Hid (PrF B p x m lim bs w W1):=Lib.hid (by rw [← hW1];exact (PrF.refl hP).below ((Below.refl _ _).alloc (Nat.le_refl _) _))
 have HE1:Hid (EB W1 w.heap.size (.int .i64 6) (.int .i64 n) (.string (strB s)) (.string (strB t)) (.slice An ns.length cn) (.slice Al l.length cl) (.slice Aa bs2.length ca)):=Lib.hid (by rw [← hW1];exact EB.new w _ _ _ _ _ _ _)
 have e0:=HE1.out.c0
 have e1:=HE1.out.c1
 have e2:=HE1.out.c2
 have e3:=HE1.out.c3
 have e4:=HE1.out.c4
 have e5:=HE1.out.c5
 have e6:=HE1.out.c6
 have hx1:=HF1.out.1.cx
 have hgp:w.heap.size≠p:=by have:=hP.ltp;omega
 have hpcs:pcs (.mk 6 n s t ns l ops bs2)=openP [108,101,116] ns (l.map Ex.lp) [[32,61,32],[32,105,110,32]]:=by rw [pcs_mk];rfl
 rw [hpcs] at hlen ⊢
 have HA:Hid (PrF B p x m lim bs w (W1.alloc (.cells ([[32,61,32],[32,105,110,32]].map fun s=>Value.string (strB s)).toArray 9))):=Lib.hid (HF1.out.below ((Below.refl _ _).alloc (Nat.le_refl _) _))
 have HO:=Lib.hid (open_any B p x m lim bs (.int .i64 6) (.int .i64 n) (.string (strB s)) (.string (strB t)) An cn Al cl (.slice Aa bs2.length ca) [108,101,116] W1.heap.size ns l [[32,61,32],[32,105,110,32]] (W1.alloc (.cells ([[32,61,32],[32,105,110,32]].map fun s=>Value.string (strB s)).toArray 9)) HA.out.1 hS (hn.keep HA.out.2.same) (Nat.le_trans hf.hcn.1 hf.hcn.2) ((parts_of hl).fr HA.out.2) (heap_alloc_new W1 _) ⟨hln,Nat.le_trans hf.hcl.1 hf.hcl.2⟩ (by simp) hlen)
 clear hf hn hl ha ho hpcs hS hln hlen hP
 go_enter Tryz.func31,Tryz.ntmps31
 go_wp2_with fail
 clear hW1
 refine HO.out.mono ?_
 rintro e w2 ⟨rfl,hp2⟩
 have HR:=Lib.hid (HA.out.then hp2)
 clear hp2
 go_wp2_with fail
 go_end0
 exact ⟨rfl,HR.out⟩
set_option maxRecDepth 100000 in
set_option maxHeartbeats 4000000 in
theorem rule_rec (n:Int)(s t:Txt)(ns:List Txt)(l:List Ex)(ops:List (Txt × List Txt))(bs2:List Ex)(hS:∀ e∈l,ExprSays e)(hln:2≤l.length):RuleSays (.mk 7 n s t ns l ops bs2):=by
 intro B p x m lim bs cs w hP hre hlen
 have HRE:=Lib.hid hre
 obtain ⟨An,cn,Al,cl,Aa,ca,rfl,hf,hn,hl,ha,ho⟩:=hre
 show Calls Tryz.prog 32 #[.agg #[.int .i64 7,.int .i64 n,.string (strB s),.string (strB t),.slice An ns.length cn,.slice Al l.length cl,.slice Aa bs2.length ca],.pointer (some ⟨x,0,none⟩)] w _
 obtain ⟨W1,hW1⟩:∃ W1,w.alloc (.cells #[.int .i64 7,.int .i64 n,.string (strB s),.string (strB t),.slice An ns.length cn,.slice Al l.length cl,.slice Aa bs2.length ca] 27)=W1:=⟨_,rfl⟩
 have HF1:Hid (PrF B p x m lim bs w W1):=Lib.hid (by rw [← hW1];exact (PrF.refl hP).below ((Below.refl _ _).alloc (Nat.le_refl _) _))
 have HE1:Hid (EB W1 w.heap.size (.int .i64 7) (.int .i64 n) (.string (strB s)) (.string (strB t)) (.slice An ns.length cn) (.slice Al l.length cl) (.slice Aa bs2.length ca)):=Lib.hid (by rw [← hW1];exact EB.new w _ _ _ _ _ _ _)
 have e0:=HE1.out.c0
 have e1:=HE1.out.c1
 have e2:=HE1.out.c2
 have e3:=HE1.out.c3
 have e4:=HE1.out.c4
 have e5:=HE1.out.c5
 have e6:=HE1.out.c6
 have hx1:=HF1.out.1.cx
 have hgp:w.heap.size≠p:=by have:=hP.ltp;omega
 have hpcs:pcs (.mk 7 n s t ns l ops bs2)=openP [114,101,99] ns (l.map Ex.lp) [[32,61,32],[32,105,110,32]]:=by rw [pcs_mk];rfl
 rw [hpcs] at hlen ⊢
 have HA:Hid (PrF B p x m lim bs w (W1.alloc (.cells ([[32,61,32],[32,105,110,32]].map fun s=>Value.string (strB s)).toArray 9))):=Lib.hid (HF1.out.below ((Below.refl _ _).alloc (Nat.le_refl _) _))
 have HO:=Lib.hid (open_any B p x m lim bs (.int .i64 7) (.int .i64 n) (.string (strB s)) (.string (strB t)) An cn Al cl (.slice Aa bs2.length ca) [114,101,99] W1.heap.size ns l [[32,61,32],[32,105,110,32]] (W1.alloc (.cells ([[32,61,32],[32,105,110,32]].map fun s=>Value.string (strB s)).toArray 9)) HA.out.1 hS (hn.keep HA.out.2.same) (Nat.le_trans hf.hcn.1 hf.hcn.2) ((parts_of hl).fr HA.out.2) (heap_alloc_new W1 _) ⟨hln,Nat.le_trans hf.hcl.1 hf.hcl.2⟩ (by simp) hlen)
 clear hf hn hl ha ho hpcs hS hln hlen hP
 go_enter Tryz.func32,Tryz.ntmps32
 go_wp2_with fail
 clear hW1
 refine HO.out.mono ?_
 rintro e w2 ⟨rfl,hp2⟩
 have HR:=Lib.hid (HA.out.then hp2)
 clear hp2
 go_wp2_with fail
 go_end0
 exact ⟨rfl,HR.out⟩
set_option maxRecDepth 100000 in
set_option maxHeartbeats 4000000 in
theorem rule_if (n:Int)(s t:Txt)(ns:List Txt)(l:List Ex)(ops:List (Txt × List Txt))(bs2:List Ex)(hS:∀ e∈l,ExprSays e)(hln:3≤l.length):RuleSays (.mk 8 n s t ns l ops bs2):=by
 intro B p x m lim bs cs w hP hre hlen
 have HRE:=Lib.hid hre
 obtain ⟨An,cn,Al,cl,Aa,ca,rfl,hf,hn,hl,ha,ho⟩:=hre
 show Calls Tryz.prog 33 #[.agg #[.int .i64 8,.int .i64 n,.string (strB s),.string (strB t),.slice An ns.length cn,.slice Al l.length cl,.slice Aa bs2.length ca],.pointer (some ⟨x,0,none⟩)] w _
 obtain ⟨W1,hW1⟩:∃ W1,w.alloc (.cells #[.int .i64 8,.int .i64 n,.string (strB s),.string (strB t),.slice An ns.length cn,.slice Al l.length cl,.slice Aa bs2.length ca] 27)=W1:=⟨_,rfl⟩
 have HF1:Hid (PrF B p x m lim bs w W1):=Lib.hid (by rw [← hW1];exact (PrF.refl hP).below ((Below.refl _ _).alloc (Nat.le_refl _) _))
 have HE1:Hid (EB W1 w.heap.size (.int .i64 8) (.int .i64 n) (.string (strB s)) (.string (strB t)) (.slice An ns.length cn) (.slice Al l.length cl) (.slice Aa bs2.length ca)):=Lib.hid (by rw [← hW1];exact EB.new w _ _ _ _ _ _ _)
 have e0:=HE1.out.c0
 have e1:=HE1.out.c1
 have e2:=HE1.out.c2
 have e3:=HE1.out.c3
 have e4:=HE1.out.c4
 have e5:=HE1.out.c5
 have e6:=HE1.out.c6
 have hx1:=HF1.out.1.cx
 have hgp:w.heap.size≠p:=by have:=hP.ltp;omega
 have hpcs:pcs (.mk 8 n s t ns l ops bs2)=behindP (l.map Ex.lp) [[105,102,32],[32,116,104,101,110,32],[32,101,108,115,101,32]]:=by rw [pcs_mk];rfl
 rw [hpcs] at hlen ⊢
 have HA:Hid (PrF B p x m lim bs w (W1.alloc (.cells ([[105,102,32],[32,116,104,101,110,32],[32,101,108,115,101,32]].map fun s=>Value.string (strB s)).toArray 9))):=Lib.hid (HF1.out.below ((Below.refl _ _).alloc (Nat.le_refl _) _))
 have HO:=Lib.hid (behind_any B p x m lim bs Al cl W1.heap.size l [[105,102,32],[32,116,104,101,110,32],[32,101,108,115,101,32]] (W1.alloc (.cells ([[105,102,32],[32,116,104,101,110,32],[32,101,108,115,101,32]].map fun s=>Value.string (strB s)).toArray 9)) HA.out.1 hS ((parts_of hl).fr HA.out.2) (heap_alloc_new W1 _) ⟨hln,Nat.le_trans hf.hcl.1 hf.hcl.2⟩ (by simp) hlen)
 clear hf hn hl ha ho hpcs hS hln hlen hP
 go_enter Tryz.func33,Tryz.ntmps33
 go_wp2_with fail
 clear hW1
 refine HO.out.mono ?_
 rintro e w2 ⟨rfl,hp2⟩
 have HR:=Lib.hid (HA.out.then hp2)
 clear hp2
 go_wp2_with fail
 go_end0
 exact ⟨rfl,HR.out⟩
theorem res_op {tmps:Array Value}{w:World}{g:Nat}{v0 v1 v2 v3 v4 v5 v6:Value}(h2:tmps.getD 4 undef=.pointer (some ⟨g,0,none⟩))(h:EB w g v0 v1 v2 v3 v4 v5 v6) :
  (results Tryz.f60 tmps).run Tryz.prog w=.ok (.agg #[v0,v1,v2,v3,v4,v5,v6]) w:=by
 have c0:=h.c0
 have c1:=h.c1
 have c2:=h.c2
 have c3:=h.c3
 have c4:=h.c4
 have c5:=h.c5
 have c6:=h.c6
 have h2':tmps[4]?.getD undef=.pointer (some ⟨g,0,none⟩):=by simpa using h2
 simp [results,Tryz.results60,go_sem,h2',c0,c1,c2,c3,c4,c5,c6]
def primE (s:List UInt8)(a e:Ex):Ex:=.mk 9 0 s [] [] [a,e] [] []
theorem rep_prim {P:Nat→Prop}{w:World}{s:List UInt8}{a e:Ex}{g:Nat}{xs ys:List Value}(hs:okS s)(hp:P g)(hg:g < w.heap.size)(h1:xs.length=7)(h2:ys.length=7)(hc:CellsAt w g 0 (xs++ys))(ha:RepE P w a xs)(he:RepE P w e ys) :
  RepE P w (primE s a e) [.int .i64 9,.int .i64 0,.string (strB s),.string ⟨#[]⟩,.slice none 0 0,.slice (some ⟨g,0,none⟩) 2 2,.slice none 0 0]:=by
 refine ⟨none,0,some ⟨g,0,none⟩,2,none,0,rfl,⟨okN_small (by omega),okN_small (by omega),hs,Nat.zero_le _,by simp,⟨Nat.le_refl _,Nat.zero_le _⟩,⟨Nat.le_refl _,by unfold maxLen;omega⟩,⟨Nat.le_refl _,Nat.zero_le _⟩⟩,fun h=>absurd rfl h,fun _=>⟨g,0,rfl,hp,hg,⟨xs,h1,fun i v hi=>?_,ha⟩,⟨ys,h2,fun i v hi=>?_,he⟩,trivial⟩,fun h=>absurd rfl h,rfl⟩
 ·exact hc i v (by rw [List.getElem?_append_left (List.getElem?_eq_some_iff.1 hi).1];exact hi)
 ·have:=hc (7+i) v (by rw [List.getElem?_append_right (by omega),h1,Nat.add_sub_cancel_left];exact hi)
  simpa using this
def nxOf (b:Nat)(w:World):Nat:=(intOf ((w.cell? ⟨b,1,none⟩).getD undef)).toNat
theorem nxOf_ps {w:World}{b g go c:Nat}{ts:List Rt}{nx dp:Nat}(h:PS w b g go c ts nx dp):nxOf b w=nx:=by unfold nxOf;rw [h.c1];simp [intOf]
theorem operandLevel_any (l:Int)(w:World):Calls Tryz.prog 72 #[.int .i64 l] w fun e w'=>e=.returned (.int .i64 (if l=1 then 2 else l))∧w=w':=by
 by_cases h:l=1
 ·subst h
  go_enter Tryz.func72,Tryz.ntmps72
  go_wp2_with fail
  go_ret
  exact ⟨rfl,rfl⟩
 ·have hb:(l == 1)=false:=beq_eq_false_iff_ne.2 h
  rw [if_neg h]
  clear h
  go_enter Tryz.func72,Tryz.ntmps72
  go_wp2_with fail
  go_ret
  exact ⟨rfl,rfl⟩
end Go.Proofs.YtpjabnemkmdobaaGreatDoor
namespace Go.Proofs.YtpjabnemkmdobaaGreatDoor
open Go.RowKit
structure PartCells (B:Nat) (w:World) (b o:Nat) (e:Ex) (k n:Int) (s t:ByteArray) (A0:Option Addr) (n0 c0:Nat) (A1:Option Addr) (n1 c1:Nat) (A2:Option Addr) (n2 c2:Nat):Prop where
 rep:RepE (fun b=>b < B) w e [.int .i64 k,.int .i64 n,.string s,.string t,.slice A0 n0 c0,.slice A1 n1 c1,.slice A2 n2 c2]
 d0:w.cell? ⟨b,o,none⟩=some (.int .i64 k)
 d1:w.cell? ⟨b,o+1,none⟩=some (.int .i64 n)
 d2:w.cell? ⟨b,o+2,none⟩=some (.string s)
 d3:w.cell? ⟨b,o+3,none⟩=some (.string t)
 d4:w.cell? ⟨b,o+4,none⟩=some (.slice A0 n0 c0)
 d5:w.cell? ⟨b,o+5,none⟩=some (.slice A1 n1 c1)
 d6:w.cell? ⟨b,o+6,none⟩=some (.slice A2 n2 c2)
theorem PartsAt.at {B:Nat}{w:World}{b off:Nat}{l:List Ex}(h:PartsAt B w (some ⟨b,off,none⟩) l){j:Nat}{e:Ex}(hj:l[j]?=some e):(b < w.heap.size∧b < B)∧∃ k n s t A0 n0 c0 A1 n1 c1 A2 n2 c2,PartCells B w b (off+j*7) e k n s t A0 n0 c0 A1 n1 c1 A2 n2 c2:=by
 obtain ⟨b',off',e',hb,hlt,hc⟩:=h (fun h0=>by rw [h0] at hj;simp at hj)
 injection e' with e'
 injection e' with e1 e2 e3
 subst e1;subst e2
 obtain ⟨k,n,s,t,A0,n0,c0,A1,n1,c1,A2,n2,c2,hr,d0,d1,d2,d3,d4,d5,d6⟩:=hc j e hj
 exact ⟨⟨hlt,hb⟩,k,n,s,t,A0,n0,c0,A1,n1,c1,A2,n2,c2,hr,d0,d1,d2,d3,d4,d5,d6⟩
theorem PartsAt.addr {B:Nat}{w:World}{A:Option Addr}{l:List Ex}(h:PartsAt B w A l)(h0:0 < l.length):∃ b off,A=some ⟨b,off,none⟩:=by
 obtain ⟨b,off,e,_⟩:=h (List.ne_nil_of_length_pos h0)
 exact ⟨b,off,e⟩
theorem nth_lp {l:List Ex}{i:Nat}{e:Ex}(h:l[i]?=some e):nth (l.map Ex.lp) i=e.lp:=by unfold nth;rw [List.getD_eq_getElem?_getD,List.getElem?_map,h];rfl
def OpS (B p x m:Nat)(lim:Int)(w W1:World)(g:Nat)(v0 v1 v2 v3 v4 v5 v6:Value)(w':World):Prop:=∃ bs,PrF B p x m lim bs w w'∧EB w' g v0 v1 v2 v3 v4 v5 v6∧FrP B p W1 w'
section
variable {B p x m:Nat} {lim:Int} {bs:Txt} {w W1 w' w'':World} {g:Nat} {v0 v1 v2 v3 v4 v5 v6:Value}
theorem OpS.mk (h:PrF B p x m lim bs w W1)(he:EB W1 g v0 v1 v2 v3 v4 v5 v6):OpS B p x m lim w W1 g v0 v1 v2 v3 v4 v5 v6 W1:=⟨bs,h,he,FrP.refl _ _ _⟩
theorem OpS.drew (h:OpS B p x m lim w W1 g v0 v1 v2 v3 v4 v5 v6 w'):OpS B p x m lim w W1 g v0 v1 v2 v3 v4 v5 v6 w'.drew:=by
 obtain ⟨bs,h1,h2,h3⟩:=h
 exact ⟨bs,h1.drew,h2,h3.drew⟩
theorem OpS.below (h:OpS B p x m lim w W1 g v0 v1 v2 v3 v4 v5 v6 w')(hb:Below w'.heap.size w' w''):OpS B p x m lim w W1 g v0 v1 v2 v3 v4 v5 v6 w'':=by
 obtain ⟨bs,h1,h2,h3⟩:=h
 exact ⟨bs,h1.below hb,h2.kept (grown_below hb none) (by simp),h3.trans (FrP.of_below (Nat.le_trans h1.1.1 (Nat.le_of_lt h1.1.ltp)) hb)⟩
theorem OpS.alloc (h:OpS B p x m lim w W1 g v0 v1 v2 v3 v4 v5 v6 w')(o:Obj):OpS B p x m lim w W1 g v0 v1 v2 v3 v4 v5 v6 (w'.alloc o):=h.below ((Below.refl _ _).alloc (Nat.le_refl _) _)
theorem OpS.call (h:OpS B p x m lim w W1 g v0 v1 v2 v3 v4 v5 v6 w')(hne:g≠p)(hp:PrF B p x m lim bs w' w''):OpS B p x m lim w W1 g v0 v1 v2 v3 v4 v5 v6 w'':=by
 obtain ⟨bs,h1,h2,h3⟩:=h
 exact ⟨_,h1.then hp,h2.fr' hp.2 hne,h3.trans hp.2⟩
theorem OpS.cells (h:OpS B p x m lim w W1 g v0 v1 v2 v3 v4 v5 v6 w'):w'.cell? ⟨x,0,none⟩=some (.pointer (some ⟨p,0,none⟩))∧w'.cell? ⟨g,0,none⟩=some v0∧w'.cell? ⟨g,1,none⟩=some v1∧w'.cell? ⟨g,2,none⟩=some v2∧w'.cell? ⟨g,3,none⟩=some v3∧w'.cell? ⟨g,4,none⟩=some v4∧w'.cell? ⟨g,5,none⟩=some v5∧w'.cell? ⟨g,6,none⟩=some v6∧OpS B p x m lim w W1 g v0 v1 v2 v3 v4 v5 v6 w':=by
 have hh:=h
 obtain ⟨bs,h1,h2,h3⟩:=h
 exact ⟨h1.1.cx,h2.c0,h2.c1,h2.c2,h2.c3,h2.c4,h2.c5,h2.c6,hh⟩
theorem OpS.part (h:OpS B p x m lim w W1 g v0 v1 v2 v3 v4 v5 v6 w'){b:Nat}(hb:b < B)(hlt:b < W1.heap.size){o:Nat}{v:Value}(hc:W1.cell? ⟨b,o,none⟩=some v):w'.cell? ⟨b,o,none⟩=some v:=by
 obtain ⟨bs,h1,h2,h3⟩:=h
 exact (h3.same.cell (P:=fun b=>b < B) hb hlt o).trans hc
theorem OpS.all7 {b o:Nat}{u0 u1 u2 u3 u4 u5 u6:Value}(hb:b < B)(hlt:b < W1.heap.size)(d0:W1.cell? ⟨b,o,none⟩=some u0)(d1:W1.cell? ⟨b,o+1,none⟩=some u1)(d2:W1.cell? ⟨b,o+2,none⟩=some u2)(d3:W1.cell? ⟨b,o+3,none⟩=some u3)(d4:W1.cell? ⟨b,o+4,none⟩=some u4)(d5:W1.cell? ⟨b,o+5,none⟩=some u5)(d6:W1.cell? ⟨b,o+6,none⟩=some u6)(h:OpS B p x m lim w W1 g v0 v1 v2 v3 v4 v5 v6 w') :
  w'.cell? ⟨b,o,none⟩=some u0∧w'.cell? ⟨b,o+1,none⟩=some u1∧w'.cell? ⟨b,o+2,none⟩=some u2∧w'.cell? ⟨b,o+3,none⟩=some u3∧w'.cell? ⟨b,o+4,none⟩=some u4∧w'.cell? ⟨b,o+5,none⟩=some u5∧w'.cell? ⟨b,o+6,none⟩=some u6 ∧
   w'.cell? ⟨x,0,none⟩=some (.pointer (some ⟨p,0,none⟩))∧w'.cell? ⟨g,0,none⟩=some v0∧w'.cell? ⟨g,1,none⟩=some v1∧w'.cell? ⟨g,2,none⟩=some v2∧w'.cell? ⟨g,3,none⟩=some v3∧w'.cell? ⟨g,4,none⟩=some v4∧w'.cell? ⟨g,5,none⟩=some v5∧w'.cell? ⟨g,6,none⟩=some v6∧OpS B p x m lim w W1 g v0 v1 v2 v3 v4 v5 v6 w' :=
 ⟨h.part hb hlt d0,h.part hb hlt d1,h.part hb hlt d2,h.part hb hlt d3,h.part hb hlt d4,h.part hb hlt d5,h.part hb hlt d6,h.cells⟩
end
set_option maxRecDepth 100000 in
set_option maxHeartbeats 4000000 in
theorem rule_app (n:Int)(s t:Txt)(ns:List Txt)(l:List Ex)(ops:List (Txt × List Txt))(bs2:List Ex)(hS:∀ e∈l,ExprSays e)(hln:2≤l.length):RuleSays (.mk 5 n s t ns l ops bs2):=by
 intro B p x m lim bs cs w hP hre hlen
 have HRE:=Lib.hid hre
 obtain ⟨An,cn,Al,cl,Aa,ca,rfl,hf,hn,hl,ha,ho⟩:=hre
 show Calls Tryz.prog 37 #[.pointer (some ⟨p,0,none⟩),.agg #[.int .i64 5,.int .i64 n,.string (strB s),.string (strB t),.slice An ns.length cn,.slice Al l.length cl,.slice Aa bs2.length ca]] w _
 obtain ⟨W1,hW1⟩:∃ W1,w.alloc (.cells #[.int .i64 5,.int .i64 n,.string (strB s),.string (strB t),.slice An ns.length cn,.slice Al l.length cl,.slice Aa bs2.length ca] 27)=W1:=⟨_,rfl⟩
 have HF1:Hid (PrF B p x m lim bs w W1):=Lib.hid (by rw [← hW1];exact (PrF.refl hP).below ((Below.refl _ _).alloc (Nat.le_refl _) _))
 have HE1:Hid (EB W1 w.heap.size (.int .i64 5) (.int .i64 n) (.string (strB s)) (.string (strB t)) (.slice An ns.length cn) (.slice Al l.length cl) (.slice Aa bs2.length ca)):=Lib.hid (by rw [← hW1];exact EB.new w _ _ _ _ _ _ _)
 have e0:=HE1.out.c0
 have e1:=HE1.out.c1
 have e2:=HE1.out.c2
 have e3:=HE1.out.c3
 have e4:=HE1.out.c4
 have e5:=HE1.out.c5
 have e6:=HE1.out.c6
 have hx1:=HF1.out.1.cx
 have hgp:w.heap.size≠p:=by have:=hP.ltp;omega
 obtain ⟨x0,hx0⟩:∃ e,l[0]?=some e:=⟨_,List.getElem?_eq_getElem (by omega)⟩
 obtain ⟨x1,hx1'⟩:∃ e,l[1]?=some e:=⟨_,List.getElem?_eq_getElem (by omega)⟩
 have hpcs:pcs (.mk 5 n s t ns l ops bs2)=atP 4 x0.lp++([[32]]++atP 5 x1.lp):=by rw [pcs_mk,← nth_lp hx0,← nth_lp hx1'];rfl
 rw [hpcs] at hlen
 obtain ⟨psx,hpsx⟩:∃ q,q=pcs (.mk 5 n s t ns l ops bs2):=⟨_,rfl⟩
 have HT:Hid (tot (atP 4 x0.lp++([[32]]++atP 5 x1.lp))=tot (atP 4 x0.lp)+(tot [[32]]+tot (atP 5 x1.lp))):=Lib.hid (by rw [tot_append,tot_append])
 have HL1:=Lib.hid (wrs_fit hlen HT.out)
 have HL2:=Lib.hid (wrs_le lim (atP 4 x0.lp) bs hlen HT.out)
 have HL3:=Lib.hid (wrs_fit HL2.out rfl)
 have HL4:=Lib.hid (wrs_le lim [[32]] _ HL2.out rfl)
 have HQ:Hid (wrs lim bs psx=wrs lim (wrs lim (wrs lim bs (atP 4 x0.lp)) [[32]]) (atP 5 x1.lp)):=Lib.hid (by rw [hpsx,hpcs,wrs_append,wrs_append])
 rw [← hpsx]
 have HPa:=Lib.hid (parts_of hl)
 obtain ⟨b,off,rfl⟩:=HPa.out.addr (by omega)
 have HS0:=Lib.hid (hS x0 (List.mem_of_getElem? hx0))
 have HS1:=Lib.hid (hS x1 (List.mem_of_getElem? hx1'))
 obtain ⟨⟨hb1,hb2⟩,k0,n0,s0,t0,B0,q0,r0,B1,q1,r1,B2,q2,r2,hc⟩:=(HPa.out.fr HF1.out.2).at hx0
 have HX0:=Lib.hid (HS0.out B p x m lim bs 4 _ W1 HF1.out.1 hc.rep HL1.out)
 have i0:(0:Int) < (l.length:Int):=by omega
 have i1:(1:Int) < (l.length:Int):=by omega
 have d0:=hc.d0
 have d1:=hc.d1
 have d2:=hc.d2
 have d3:=hc.d3
 have d4:=hc.d4
 have d5:=hc.d5
 have d6:=hc.d6
 simp only [Nat.zero_mul,Nat.add_zero] at d0 d1 d2 d3 d4 d5 d6
 have HX1i:=Lib.hid hx1'
 clear hf hn hl ha ho hpcs hpsx hS hln hlen hP hc hx0 hx1'
 go_enter Tryz.func37,Tryz.ntmps37
 go_wp2_with fail
 clear hW1
 refine HX0.out.mono ?_
 rintro e w2 ⟨rfl,hp2⟩
 have HP2:=Lib.hid (HF1.out.then hp2)
 have HE2:=Lib.hid (HE1.out.fr' hp2.2 hgp)
 clear hp2 d0 d1 d2 d3 d4 d5 d6 HX0 hb1
 go_wp2_with fail
 refine (write_new [[32]] w2 HP2.out (by simp) HL3.out).mono ?_
 rintro e w3 ⟨rfl,hp3,hf3⟩
 have HP3:=Lib.hid hp3
 have HE3:=Lib.hid (HE2.out.fr' hf3 hgp)
 clear hp3 hf3
 obtain ⟨⟨hb1,hb2⟩,k0,n0,s0,t0,B0,q0,r0,B1,q1,r1,B2,q2,r2,hc⟩:=(HPa.out.fr HP3.out.2).at HX1i.out
 have HX1:=Lib.hid (HS1.out B p x m lim _ 5 _ w3 HP3.out.1 hc.rep HL4.out)
 have g5:=HE3.out.c5
 have d0:=hc.d0
 have d1:=hc.d1
 have d2:=hc.d2
 have d3:=hc.d3
 have d4:=hc.d4
 have d5:=hc.d5
 have d6:=hc.d6
 simp only [Nat.one_mul] at d0 d1 d2 d3 d4 d5 d6
 clear hc
 go_wp2_with fail
 refine HX1.out.mono ?_
 rintro e w4 ⟨rfl,hp4⟩
 have HR:=Lib.hid (HP3.out.then hp4)
 clear hp4 d0 d1 d2 d3 d4 d5 d6
 go_wp2_with fail
 go_end0
 exact ⟨rfl,by rw [HQ.out];exact HR.out⟩
set_option maxRecDepth 100000 in
set_option maxHeartbeats 4000000 in
theorem rule_prim (n:Int)(s t:Txt)(ns:List Txt)(l:List Ex)(ops:List (Txt × List Txt))(bs2:List Ex)(hS:∀ e∈l,ExprSays e)(hln:2≤l.length)(ho9:(opLv s).isSome=true):RuleSays (.mk 9 n s t ns l ops bs2):=by
 intro B p x m lim bs cs w hP hre hlen
 have HRE:=Lib.hid hre
 obtain ⟨An,cn,Al,cl,Aa,ca,rfl,hf,hn,hl,ha,ho⟩:=hre
 show Calls Tryz.prog 36 #[.pointer (some ⟨p,0,none⟩),.agg #[.int .i64 9,.int .i64 n,.string (strB s),.string (strB t),.slice An ns.length cn,.slice Al l.length cl,.slice Aa bs2.length ca]] w _
 obtain ⟨W1,hW1⟩:∃ W1,w.alloc (.cells #[.int .i64 9,.int .i64 n,.string (strB s),.string (strB t),.slice An ns.length cn,.slice Al l.length cl,.slice Aa bs2.length ca] 27)=W1:=⟨_,rfl⟩
 have HF1:Hid (PrF B p x m lim bs w W1):=Lib.hid (by rw [← hW1];exact (PrF.refl hP).below ((Below.refl _ _).alloc (Nat.le_refl _) _))
 have HE1:Hid (EB W1 w.heap.size (.int .i64 9) (.int .i64 n) (.string (strB s)) (.string (strB t)) (.slice An ns.length cn) (.slice Al l.length cl) (.slice Aa bs2.length ca)):=Lib.hid (by rw [← hW1];exact EB.new w _ _ _ _ _ _ _)
 have e0:=HE1.out.c0
 have e1:=HE1.out.c1
 have e2:=HE1.out.c2
 have e3:=HE1.out.c3
 have e4:=HE1.out.c4
 have e5:=HE1.out.c5
 have e6:=HE1.out.c6
 have hx1:=HF1.out.1.cx
 have hgp:w.heap.size≠p:=by have:=hP.ltp;omega
 obtain ⟨x0,hx0⟩:∃ e,l[0]?=some e:=⟨_,List.getElem?_eq_getElem (by omega)⟩
 obtain ⟨x1,hx1'⟩:∃ e,l[1]?=some e:=⟨_,List.getElem?_eq_getElem (by omega)⟩
 obtain ⟨lv,hlv⟩:=Option.isSome_iff_exists.1 ho9
 have hlb:1≤lv∧lv≤3:=by
  unfold opLv at hlv
  split at hlv
  ·injection hlv with h;omega
  ·split at hlv
   ·injection hlv with h;omega
   ·split at hlv
    ·injection hlv with h;omega
    ·cases hlv
 have hpcs:pcs (.mk 9 n s t ns l ops bs2)=atP (operandLv lv) x0.lp++([[32],s,[32]]++atP (lv+1) x1.lp):=by
  rw [pcs_mk,← nth_lp hx0,← nth_lp hx1']
  show atP (operandLv ((opLv s).getD 0)) _++([[32],s,[32]]++atP ((opLv s).getD 0+1) _)=_
  rw [hlv];rfl
 rw [hpcs] at hlen
 obtain ⟨psx,hpsx⟩:∃ q,q=pcs (.mk 9 n s t ns l ops bs2):=⟨_,rfl⟩
 have HT:Hid (tot (atP (operandLv lv) x0.lp++([[32],s,[32]]++atP (lv+1) x1.lp))=tot (atP (operandLv lv) x0.lp)+(tot [[32],s,[32]]+tot (atP (lv+1) x1.lp))):=Lib.hid (by rw [tot_append,tot_append])
 have HL1:=Lib.hid (wrs_fit hlen HT.out)
 have HL2:=Lib.hid (wrs_le lim (atP (operandLv lv) x0.lp) bs hlen HT.out)
 have HL3:=Lib.hid (wrs_fit HL2.out rfl)
 have HL4:=Lib.hid (wrs_le lim [[32],s,[32]] _ HL2.out rfl)
 have HQ:Hid (wrs lim bs psx=wrs lim (wrs lim (wrs lim bs (atP (operandLv lv) x0.lp)) [[32],s,[32]]) (atP (lv+1) x1.lp)):=Lib.hid (by rw [hpsx,hpcs,wrs_append,wrs_append])
 rw [← hpsx]
 have HPa:=Lib.hid (parts_of hl)
 obtain ⟨b,off,rfl⟩:=HPa.out.addr (by omega)
 have HS0:=Lib.hid (hS x0 (List.mem_of_getElem? hx0))
 have HS1:=Lib.hid (hS x1 (List.mem_of_getElem? hx1'))
 have HOp:Hid (∀ w,Calls Tryz.prog 71 #[.string (strB s)] w fun e w'=>e=.returned (.tuple #[.int .i64 lv,.bool true])∧w=w'):=Lib.hid (fun w=>(opLevel_any s w).mono fun e w' h=>⟨by rw [h.1,hlv];rfl,h.2⟩)
 have HOd:Hid (∀ w,Calls Tryz.prog 72 #[.int .i64 lv] w fun e w'=>e=.returned (.int .i64 (operandLv lv))∧w=w'):=Lib.hid (fun w=>operandLevel_any lv w)
 obtain ⟨⟨hb1,hb2⟩,k0,n0,s0,t0,B0,q0,r0,B1,q1,r1,B2,q2,r2,hc⟩:=(HPa.out.fr HF1.out.2).at hx0
 have HX0:=Lib.hid (fun w' (h1:PrF B p x m lim bs W1 w')=>HS0.out B p x m lim bs (operandLv lv) _ w' h1.1 (hc.rep.keep h1.2.same) HL1.out)
 have i0:(0:Int) < (l.length:Int):=by omega
 have i1:(1:Int) < (l.length:Int):=by omega
 obtain ⟨j1,j2⟩:=hlb
 have d0:=hc.d0
 have d1:=hc.d1
 have d2:=hc.d2
 have d3:=hc.d3
 have d4:=hc.d4
 have d5:=hc.d5
 have d6:=hc.d6
 simp only [Nat.zero_mul,Nat.add_zero] at d0 d1 d2 d3 d4 d5 d6
 have HX1i:=Lib.hid hx1'
 have i0n:0 < l.length:=by omega
 have i1n:1 < l.length:=by omega
 obtain ⟨ml,hml⟩:∃ q,q=l.length:=⟨_,rfl⟩
 rw [← hml] at HE1 hW1 e5 i0 i1 i0n i1n ⊢
 clear hf hn hl ha ho hpcs hpsx hS hln hlen hP hc hx0 hx1' hlv ho9 hml
 go_enter Tryz.func36,Tryz.ntmps36
 go_wp2_with fail
 clear hW1
 refine (HOp.out _).mono ?_
 rintro e w' ⟨rfl,rfl⟩
 go_wp2_with fail
 have hX:OpS B p x m lim w W1 w.heap.size (.int .i64 9) (.int .i64 n) (.string (strB s)) (.string (strB t)) (.slice An ns.length cn) (.slice (some ⟨b,off,none⟩) ml cl) (.slice Aa bs2.length ca) W1:=OpS.mk HF1.out HE1.out
 go_region_held3 (fun w'=>w'.cell? ⟨b,off,none⟩=some (.int .i64 k0)∧w'.cell? ⟨b,off+1,none⟩=some (.int .i64 n0)∧w'.cell? ⟨b,off+2,none⟩=some (.string s0)∧w'.cell? ⟨b,off+3,none⟩=some (.string t0)∧w'.cell? ⟨b,off+4,none⟩=some (.slice B0 q0 r0)∧w'.cell? ⟨b,off+5,none⟩=some (.slice B1 q1 r1)∧w'.cell? ⟨b,off+6,none⟩=some (.slice B2 q2 r2)∧w'.cell? ⟨x,0,none⟩=some (.pointer (some ⟨p,0,none⟩))∧w'.cell? ⟨w.heap.size,0,none⟩=some (.int .i64 9)∧w'.cell? ⟨w.heap.size,1,none⟩=some (.int .i64 n)∧w'.cell? ⟨w.heap.size,2,none⟩=some (.string (strB s))∧w'.cell? ⟨w.heap.size,3,none⟩=some (.string (strB t))∧w'.cell? ⟨w.heap.size,4,none⟩=some (.slice An ns.length cn)∧w'.cell? ⟨w.heap.size,5,none⟩=some (.slice (some ⟨b,off,none⟩) ml cl)∧w'.cell? ⟨w.heap.size,6,none⟩=some (.slice Aa bs2.length ca)∧OpS B p x m lim w W1 w.heap.size (.int .i64 9) (.int .i64 n) (.string (strB s)) (.string (strB t)) (.slice An ns.length cn) (.slice (some ⟨b,off,none⟩) ml cl) (.slice Aa bs2.length ca) w')
  ((refine OpS.all7 hb2 hb1 d0 d1 d2 d3 d4 d5 d6 ?_;first | assumption | exact hX.drew | exact OpS.call hX.drew hgp (by assumption)))
  (first | (go_at_call 72;refine (HOd.out _).mono ?_;rintro e w' ⟨rfl,rfl⟩) | (go_at_call 15;refine (HX0.out _ (PrF.drew (PrF.refl HF1.out.1))).mono ?_;rintro e w' ⟨rfl,hpf⟩))
 rename_i hh
 have HP2:=Lib.hid (HF1.out.drew.then hpf)
 have HE2:=Lib.hid (HE1.out.fr' (FrP.trans (FrP.refl _ _ _).drew hpf.2) hgp)
 clear hh hpf hX d0 d1 d2 d3 d4 d5 d6 HX0 hb1 hb2 e0 e1 e2 e3 e4 e5 e6
 have g2:=HE2.out.c2
 go_wp2_with fail
 refine (write_new [[32],s,[32]] _ HP2.out (by simp) HL3.out).mono ?_
 rintro e w3 ⟨rfl,hp3,hf3⟩
 have HP3:=Lib.hid hp3
 have HE3:=Lib.hid (HE2.out.fr' hf3 hgp)
 clear hp3 hf3 g2
 obtain ⟨⟨hb1,hb2⟩,k0,n0,s0,t0,B0,q0,r0,B1,q1,r1,B2,q2,r2,hc⟩:=(HPa.out.fr HP3.out.2).at HX1i.out
 have HX1:=Lib.hid (HS1.out B p x m lim _ (lv+1) _ w3 HP3.out.1 hc.rep HL4.out)
 have g5:=HE3.out.c5
 have d0:=hc.d0
 have d1:=hc.d1
 have d2:=hc.d2
 have d3:=hc.d3
 have d4:=hc.d4
 have d5:=hc.d5
 have d6:=hc.d6
 simp only [Nat.one_mul] at d0 d1 d2 d3 d4 d5 d6
 clear hc
 go_wp2_with fail
 refine HX1.out.mono ?_
 rintro e w4 ⟨rfl,hp4⟩
 have HR:=Lib.hid (HP3.out.then hp4)
 clear hp4 d0 d1 d2 d3 d4 d5 d6
 go_wp2_with fail
 go_end0
 exact ⟨rfl,by rw [HQ.out];exact HR.out⟩
end Go.Proofs.YtpjabnemkmdobaaGreatDoor
