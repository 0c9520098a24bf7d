/- Texts put together by program: Tok First Iter Range Lex Pars ParsE ParsA ParsH ParsC PrA PrB. -/
import Derived.Test.YtpjabnemkmdobaaGreatDoorMgA
import Derived.Lib.AppendIntMem
import Derived.RangeFuncNested
import Derived.RangeFuncBound
import Derived.RangeFuncCalls
import Derived.RangeFuncLeaves
import Derived.RangeFuncBox
import Derived.Shelf.Abstract
import Derived.OwnWalkIn
import Derived.TacticsInMore
import Derived.LoopNIn
import Derived.LoopIn
import Derived.Maps.AppendAt
import Derived.StillTailTactics
import Derived.Recover
import Derived.Deep.RegionHeld3
import Derived.Deep.RegionWith
import Derived.BigRegion
import Derived.Lib.Builder
import Derived.Lib.UnsafeStr
import Derived.Lib.OthersKept
import Derived.Lib.AppendStr
import Derived.OwnWalk
namespace Go.Proofs.YtpjabnemkmdobaaGreatDoor
open Go.RowKit
def Tab (w:World):Prop:=∃ t fr,w.heap[3]?=some (.cells (Lib.pow10Tab.map fun z=>Value.int .u64 z).toArray t fr)
theorem Tab.is {w:World}(h:Tab w):Lib.TabIs Tryz.prog w "internal/strconv.uint64pow10" .u64 Lib.pow10Tab:=by
 obtain ⟨t,fr,e⟩:=h
 have hg:Tryz.prog.globalNamed "internal/strconv.uint64pow10"=some 3:=by kernel_rfl
 unfold Lib.TabIs World.var?
 rw [hg]
 simp only [Option.bind_some,e]
def Env (w:World):Prop:=Syms w∧Tab w
theorem Env.lt {w:World}(h:Env w):3 < w.heap.size:=by obtain ⟨_,t,fr,e⟩:=h;exact (Array.getElem?_eq_some_iff.1 e).1
theorem Env.grown {w w':World}{row:Option Nat}(h:Env w)(hg:w.grownBy w' row)(h0:some 1≠row)(h2:some 3≠row):Env w':=by
 refine ⟨h.1.grown hg h0,?_⟩
 have hl:=h.lt
 obtain ⟨_,t,fr,e⟩:=h
 exact ⟨t,fr,(hg.block 3 hl h2).trans e⟩
theorem Env.below {w w':World}(h:Env w)(hb:Below w.heap.size w w'):Env w':=h.grown (grown_below hb none) (by simp) (by simp)
theorem below_call {w w1 w2:World}(h:Below w.heap.size w w1)(hb:Below w1.heap.size w1 w2):Below w.heap.size w w2:=h.trans (hb.mono h.size)
def isV (l:List UInt8):Bool:=isNm 1 l && !isKw l
set_option maxHeartbeats 400000 in
theorem IsVar_any (s:ByteArray)(w:World)(hs:s.size≤maxLen):Calls Tryz.prog 119 #[.string s] w fun e w'=>e=.returned (.bool (isV s.data.toList))∧Below w.heap.size w w':=by
 unfold isV
 cases h1:isNm 1 s.data.toList with
 | false =>
  have H1:Hid (∀ w,Calls Tryz.prog 137 #[.string s,.int .i64 1] w fun e w'=>e=.returned (.bool false)∧Below w.heap.size w w'):=fun w=>(isName_any s 1 w hs).mono fun e w' h=>⟨by rw [h.1,h1],h.2⟩
  clear h1
  go_enter Tryz.func119,Tryz.ntmps119
  go_wp2_with (go_at_call 137;refine (H1.out _).mono ?_;rintro e w' ⟨rfl,hb⟩)
  go_ret
  exact ⟨ret_bool rfl,hb⟩
 | true =>
  have H1:Hid (∀ w,Calls Tryz.prog 137 #[.string s,.int .i64 1] w fun e w'=>e=.returned (.bool true)∧Below w.heap.size w w'):=fun w=>(isName_any s 1 w hs).mono fun e w' h=>⟨by rw [h.1,h1],h.2⟩
  clear h1
  have HK:=Lib.hid (fun w=>Keyword_any s w hs)
  go_enter Tryz.func119,Tryz.ntmps119
  go_wp2_with (first | (go_at_call 137;refine (H1.out _).mono ?_;rintro e w1 ⟨rfl,hb⟩) | (go_at_call 136;refine (HK.out _).mono ?_;rintro e w2 ⟨rfl,hb2⟩))
  go_ret
  exact ⟨ret_bool (by simp),hb.trans (hb2.mono hb.size)⟩
set_option maxHeartbeats 400000 in
theorem IsUpper_any (s:ByteArray)(w:World)(hs:s.size≤maxLen):Calls Tryz.prog 120 #[.string s] w fun e w'=>e=.returned (.bool (isNm 2 s.data.toList))∧Below w.heap.size w w':=by
 have H1:=Lib.hid (fun w=>isName_any s 2 w hs)
 go_enter Tryz.func120,Tryz.ntmps120
 go_wp2_with (go_at_call 137;refine (H1.out _).mono ?_;rintro e w' ⟨rfl,hb⟩)
 go_ret
 exact ⟨rfl,hb⟩
set_option maxHeartbeats 400000 in
theorem Digits_any (n:Int)(w:World)(h:-9223372036854775808≤n∧n≤9223372036854775807)(hT:Tab w):Calls Tryz.prog 68 #[.int .i64 n] w fun e w'=>e=.returned (.string (strB (Lib.itoa n)))∧Below w.heap.size w w':=by
 have H1:Hid (Calls Tryz.prog 102 #[.int .i64 n] w fun e w'=>e=.returned (.string (strB (Lib.itoa n)))∧Below w.heap.size w w') :=
  (Tryz.strconv_Itoa n h.1 h.2 w hT.is).mono fun e w' h=>⟨h.1,by obtain ⟨k,os,rfl⟩:=h.2;exact Lib.below_grow _ _ (Nat.le_refl _) k os⟩
 clear h
 go_enter Tryz.func68,Tryz.ntmps68
 go_wp2_with (go_at_call 102;refine (Calls.mono H1.out ?_);rintro e w' ⟨rfl,hb⟩)
 go_ret
 exact ⟨rfl,hb⟩
def TokRes (o:Option (Int × List UInt8 × Int)):Ending :=
 match o with
 | some (k,s,n)=>.returned (.tuple #[.agg #[.int .i64 k,.string (strB s),.int .i64 n,.int .i64 0],.bool true])
 | none=>.returned (.tuple #[.agg #[.int .i64 0,.string ⟨#[]⟩,.int .i64 0,.int .i64 0],.bool false])
theorem TokRes_some {o:Option (Int × List UInt8 × Int)}{k n:Int}{s:List UInt8}(h:o=some (k,s,n)):Ending.returned (.tuple #[.agg #[.int .i64 k,.string (strB s),.int .i64 n,.int .i64 0],.bool true])=TokRes o:=by rw [h];rfl
theorem TokRes_none {o:Option (Int × List UInt8 × Int)}(h:o=none):Ending.returned (.tuple #[.agg #[.int .i64 0,.string ⟨#[]⟩,.int .i64 0,.int .i64 0],.bool false])=TokRes o:=by rw [h];rfl
def TB (w:World)(g:Nat)(k:Int)(s:ByteArray)(n pos:Int):Prop:=w.heap[g]?=some (.cells #[.int .i64 k,.string s,.int .i64 n,.int .i64 pos] 74 (0,0))
section
variable {w w':World} {g:Nat} {s:ByteArray} {k n pos:Int}
theorem TB.lt (h:TB w g k s n pos):g < w.heap.size:=(Array.getElem?_eq_some_iff.1 h).1
theorem TB.c0 (h:TB w g k s n pos):w.cell? ⟨g,0,none⟩=some (.int .i64 k):=cell_of_row w g 0 _ 74 (0,0) h
theorem TB.c1 (h:TB w g k s n pos):w.cell? ⟨g,1,none⟩=some (.string s):=cell_of_row w g 1 _ 74 (0,0) h
theorem TB.c2 (h:TB w g k s n pos):w.cell? ⟨g,2,none⟩=some (.int .i64 n):=cell_of_row w g 2 _ 74 (0,0) h
theorem TB.c3 (h:TB w g k s n pos):w.cell? ⟨g,3,none⟩=some (.int .i64 pos):=cell_of_row w g 3 _ 74 (0,0) h
theorem TB.fr (h:TB w g k s n pos)(i:Nat):w.frozen? ⟨g,i,none⟩=false:=by
 unfold TB at h;simp [World.frozen?,h]
theorem TB.new (w:World)(k:Int)(s:ByteArray)(n pos:Int):TB (w.alloc (.cells #[.int .i64 k,.string s,.int .i64 n,.int .i64 pos] 74)) w.heap.size k s n pos:=heap_alloc_new w _
theorem TB.kept (h:TB w g k s n pos){row:Option Nat}(hg:w.grownBy w' row)(hne:some g≠row):TB w' g k s n pos:=(hg.block g h.lt hne).trans h
theorem TB.below (h:TB w g k s n pos)(hb:Below w.heap.size w w'):TB w' g k s n pos:=(hb.block g h.lt).trans h
theorem TB.drewN (h:TB w g k s n pos)(m:Nat):TB (w.drewN m) g k s n pos:=h
theorem TB.set0 (h:TB w g k s n pos)(x:Int):TB (w.setCell ⟨g,0,none⟩ (.int .i64 x)) g x s n pos:=by
 unfold TB at h ⊢;simp [World.setCell,Array.getElem?_modify,h]
theorem TB.set1 (h:TB w g k s n pos)(x:ByteArray):TB (w.setCell ⟨g,1,none⟩ (.string x)) g k x n pos:=by
 unfold TB at h ⊢;simp [World.setCell,Array.getElem?_modify,h]
theorem TB.set2 (h:TB w g k s n pos)(x:Int):TB (w.setCell ⟨g,2,none⟩ (.int .i64 x)) g k s x pos:=by
 unfold TB at h ⊢;simp [World.setCell,Array.getElem?_modify,h]
theorem TB.set3 (h:TB w g k s n pos)(x:Int):TB (w.setCell ⟨g,3,none⟩ (.int .i64 x)) g k s n x:=by
 unfold TB at h ⊢;simp [World.setCell,Array.getElem?_modify,h]
theorem TB.all (h:TB w g k s n pos)(k':Int)(s':ByteArray)(n' pos':Int) :
  TB ((((w.setCell ⟨g,0,none⟩ (.int .i64 k')).setCell ⟨g,1,none⟩ (.string s')).setCell ⟨g,2,none⟩ (.int .i64 n')).setCell ⟨g,3,none⟩ (.int .i64 pos')) g k' s' n' pos':=(((h.set0 k').set1 s').set2 n').set3 pos'
end
theorem bset {w w1:World}{B b o:Nat}(h:Below B w w1)(hb:B≤b)(v:Value):Below B w (w1.setCell ⟨b,o,none⟩ v):=Below.setCell h (p:=⟨b,o,none⟩) hb v
theorem ball {w w1:World}{B b:Nat}(h:Below B w w1)(hb:B≤b)(v0 v1 v2 v3:Value):Below B w ((((w1.setCell ⟨b,0,none⟩ v0).setCell ⟨b,1,none⟩ v1).setCell ⟨b,2,none⟩ v2).setCell ⟨b,3,none⟩ v3):=bset (bset (bset (bset h hb _) hb _) hb _) hb _
theorem res55 {tmps:Array Value}{w:World}{g:Nat}{k n pos:Int}{s:ByteArray}{b:Bool}(h2:tmps.getD 2 undef=.pointer (some ⟨g,0,none⟩))(h3:tmps.getD 3 undef=.bool b)(h:TB w g k s n pos) :
  (results Tryz.f112 tmps).run Tryz.prog w=.ok (.tuple #[.agg #[.int .i64 k,.string s,.int .i64 n,.int .i64 pos],.bool b]) w:=by
 have c0:=h.c0
 have c1:=h.c1
 have c2:=h.c2
 have c3:=h.c3
 have h2':tmps[2]?.getD undef=.pointer (some ⟨g,0,none⟩):=by simpa using h2
 have h3':tmps[3]?.getD undef=.bool b:=by simpa using h3
 simp [results,Tryz.results112,go_sem,h2',h3',c0,c1,c2,c3]
set_option maxHeartbeats 400000 in
theorem tokenOf_int (s:ByteArray)(n:Int)(w:World)(hs:s.size≤maxLen)(hi:integerS s.data.toList=some n) :
  Calls Tryz.prog 112 #[.string s] w fun e w'=>e=TokRes (tokS s.data.toList)∧Below w.heap.size w w':=by
 have HR:=Lib.hid (show tokS s.data.toList=some (3,[],n) by unfold tokS;rw [hi])
 have HI:Hid (∀ w,Calls Tryz.prog 135 #[.string s] w fun e w'=>e=.returned (.tuple #[.int .i64 n,.bool true])∧Below w.heap.size w w'):=fun w=>(integer_any s w hs).mono fun e w' h=>⟨by rw [h.1,hi];rfl,h.2⟩
 clear hi
 have HN:=Lib.hid (TB.new w 0 ⟨#[]⟩ 0 0)
 have HA:=Lib.hid ((Below.refl w.heap.size w).alloc (Nat.le_refl _) (.cells #[.int .i64 0,.string ⟨#[]⟩,.int .i64 0,.int .i64 0] 74))
 go_enter Tryz.func112,Tryz.ntmps112
 go_wp2_with (go_at_call 135;refine (HI.out _).mono ?_;rintro e w' ⟨rfl,hb⟩;have HB1:=Lib.hid (below_call HA.out hb);have HT1:=Lib.hid (HN.out.below hb);clear hb;have c0:=HT1.out.c0;have c1:=HT1.out.c1;have c2:=HT1.out.c2;have c3:=HT1.out.c3;have f0:=HT1.out.fr 0;have f1:=HT1.out.fr 1;have f2:=HT1.out.fr 2;have f3:=HT1.out.fr 3)
 exact bodyPost_ret (res55 rfl rfl (HT1.out.all 3 ⟨#[]⟩ n 0)) rfl ⟨TokRes_some HR.out,ball HB1.out (Nat.le_refl _) _ _ _ _⟩
theorem tok_none {l:List UInt8}(h:integerS l=none):tokS l=if isKw l then some (1,l,0) else if isNm 1 l then some (0,l,0) else if isNm 2 l then some (2,l,0) else if isSym l then some (4,l,0) else none:=by
 unfold tokS;rw [h]
set_option maxHeartbeats 1000000 in
theorem tokenOf_rest (s:ByteArray)(w:World)(hs:s.size≤maxLen)(hY:Syms w)(hi:integerS s.data.toList=none) :
  Calls Tryz.prog 112 #[.string s] w fun e w'=>e=TokRes (tokS s.data.toList)∧Below w.heap.size w w':=by
 have HI:Hid (∀ w,Calls Tryz.prog 135 #[.string s] w fun e w'=>e=.returned (.tuple #[.int .i64 0,.bool false])∧Below w.heap.size w w'):=fun w=>(integer_any s w hs).mono fun e w' h=>⟨by rw [h.1,hi];rfl,h.2⟩
 have HT:=Lib.hid (tok_none hi)
 have HY:=Lib.hid hY
 clear hi hY
 have HN:=Lib.hid (TB.new w 0 ⟨#[]⟩ 0 0)
 have HA:=Lib.hid ((Below.refl w.heap.size w).alloc (Nat.le_refl _) (.cells #[.int .i64 0,.string ⟨#[]⟩,.int .i64 0,.int .i64 0] 74))
 cases hk:isKw s.data.toList with
 | true =>
  have HR:=Lib.hid (show tokS s.data.toList=some (1,s.data.toList,0) by rw [HT.out,hk];rfl)
  have HK:Hid (∀ w,Calls Tryz.prog 136 #[.string s] w fun e w'=>e=.returned (.bool true)∧Below w.heap.size w w'):=fun w=>(Keyword_any s w hs).mono fun e w' h=>⟨by rw [h.1,hk],h.2⟩
  clear hk HT HY
  go_enter Tryz.func112,Tryz.ntmps112
  go_wp2_with (first
   | (go_at_call 135;refine (HI.out _).mono ?_;rintro e w1 ⟨rfl,hb⟩;have HB1:=Lib.hid (below_call HA.out hb);have HT1:=Lib.hid (HN.out.below hb);clear hb;have c0:=HT1.out.c0;have c1:=HT1.out.c1;have c2:=HT1.out.c2;have c3:=HT1.out.c3;have f0:=HT1.out.fr 0;have f1:=HT1.out.fr 1;have f2:=HT1.out.fr 2;have f3:=HT1.out.fr 3)
   | (go_at_call 136;refine (HK.out _).mono ?_;rintro e w2 ⟨rfl,hb⟩;have HB2:=Lib.hid (below_call (bset HB1.out (Nat.le_refl _) _) hb);have HT2:=Lib.hid ((HT1.out.set1 s).below hb);clear hb;have d0:=HT2.out.c0;have d1:=HT2.out.c1;have d2:=HT2.out.c2;have d3:=HT2.out.c3;have e0:=HT2.out.fr 0;have e1:=HT2.out.fr 1;have e2:=HT2.out.fr 2;have e3:=HT2.out.fr 3))
  exact bodyPost_ret (res55 rfl rfl ((HT2.out.set0 1).all 1 s 0 0)) rfl ⟨TokRes_some HR.out,ball (bset HB2.out (Nat.le_refl _) _) (Nat.le_refl _) _ _ _ _⟩
 | false =>
  have HK:Hid (∀ w,Calls Tryz.prog 136 #[.string s] w fun e w'=>e=.returned (.bool false)∧Below w.heap.size w w'):=fun w=>(Keyword_any s w hs).mono fun e w' h=>⟨by rw [h.1,hk],h.2⟩
  have HM:Hid (∀ k w,Calls Tryz.prog 137 #[.string s,.int .i64 k] w fun e w'=>e=.returned (.bool (isNm k s.data.toList))∧Below w.heap.size w w'):=fun k w=>isName_any s k w hs
  cases h1:isNm 1 s.data.toList with
  | true =>
   have HR:=Lib.hid (show tokS s.data.toList=some (0,s.data.toList,0) by rw [HT.out,hk,h1];rfl)
   clear hk HT HY
   go_enter Tryz.func112,Tryz.ntmps112
   go_wp2_with (first
    | (go_at_call 135;refine (HI.out _).mono ?_;rintro e w1 ⟨rfl,hb⟩;have HB1:=Lib.hid (below_call HA.out hb);have HT1:=Lib.hid (HN.out.below hb);clear hb;have c0:=HT1.out.c0;have c1:=HT1.out.c1;have c2:=HT1.out.c2;have c3:=HT1.out.c3;have f0:=HT1.out.fr 0;have f1:=HT1.out.fr 1;have f2:=HT1.out.fr 2;have f3:=HT1.out.fr 3)
    | (go_at_call 136;refine (HK.out _).mono ?_;rintro e w2 ⟨rfl,hb⟩;have HB2:=Lib.hid (below_call (bset HB1.out (Nat.le_refl _) _) hb);have HT2:=Lib.hid ((HT1.out.set1 s).below hb);clear hb)
    | (go_at_call 137;refine (HM.out _ _).mono ?_;rintro e w3 ⟨rfl,hb⟩;have X:=Lib.hid (below_call HB2.out hb);have Y:=Lib.hid (HT2.out.below hb);clear HB2 HT2 hb;have HB2:=X;have HT2:=Y;clear X Y;have d0:=HT2.out.c0;have d1:=HT2.out.c1;have d2:=HT2.out.c2;have d3:=HT2.out.c3;have e0:=HT2.out.fr 0;have e1:=HT2.out.fr 1;have e2:=HT2.out.fr 2;have e3:=HT2.out.fr 3))
   exact bodyPost_ret (res55 rfl rfl ((HT2.out.set0 0).all 0 s 0 0)) rfl ⟨TokRes_some HR.out,ball (bset HB2.out (Nat.le_refl _) _) (Nat.le_refl _) _ _ _ _⟩
  | false =>
   cases h2:isNm 2 s.data.toList with
   | true =>
    have HR:=Lib.hid (show tokS s.data.toList=some (2,s.data.toList,0) by rw [HT.out,hk,h1,h2];rfl)
    clear hk HT HY
    go_enter Tryz.func112,Tryz.ntmps112
    go_wp2_with (first
     | (go_at_call 135;refine (HI.out _).mono ?_;rintro e w1 ⟨rfl,hb⟩;have HB1:=Lib.hid (below_call HA.out hb);have HT1:=Lib.hid (HN.out.below hb);clear hb;have c0:=HT1.out.c0;have c1:=HT1.out.c1;have c2:=HT1.out.c2;have c3:=HT1.out.c3;have f0:=HT1.out.fr 0;have f1:=HT1.out.fr 1;have f2:=HT1.out.fr 2;have f3:=HT1.out.fr 3)
     | (go_at_call 136;refine (HK.out _).mono ?_;rintro e w2 ⟨rfl,hb⟩;have HB2:=Lib.hid (below_call (bset HB1.out (Nat.le_refl _) _) hb);have HT2:=Lib.hid ((HT1.out.set1 s).below hb);clear hb)
     | (go_at_call 137;refine (HM.out _ _).mono ?_;rintro e w3 ⟨rfl,hb⟩;have X:=Lib.hid (below_call HB2.out hb);have Y:=Lib.hid (HT2.out.below hb);clear HB2 HT2 hb;have HB2:=X;have HT2:=Y;clear X Y;have d0:=HT2.out.c0;have d1:=HT2.out.c1;have d2:=HT2.out.c2;have d3:=HT2.out.c3;have e0:=HT2.out.fr 0;have e1:=HT2.out.fr 1;have e2:=HT2.out.fr 2;have e3:=HT2.out.fr 3))
    exact bodyPost_ret (res55 rfl rfl ((HT2.out.set0 2).all 2 s 0 0)) rfl ⟨TokRes_some HR.out,ball (bset HB2.out (Nat.le_refl _) _) (Nat.le_refl _) _ _ _ _⟩
   | false =>
    cases h3:isSym s.data.toList with
    | true =>
     have HR:=Lib.hid (show tokS s.data.toList=some (4,s.data.toList,0) by rw [HT.out,hk,h1,h2,h3];rfl)
     clear hk HT
     go_enter Tryz.func112,Tryz.ntmps112
     go_wp2_with (first
      | (go_at_call 135;refine (HI.out _).mono ?_;rintro e w1 ⟨rfl,hb⟩;have HB1:=Lib.hid (below_call HA.out hb);have HT1:=Lib.hid (HN.out.below hb);clear hb;have c0:=HT1.out.c0;have c1:=HT1.out.c1;have c2:=HT1.out.c2;have c3:=HT1.out.c3;have f0:=HT1.out.fr 0;have f1:=HT1.out.fr 1;have f2:=HT1.out.fr 2;have f3:=HT1.out.fr 3)
      | (go_at_call 136;refine (HK.out _).mono ?_;rintro e w2 ⟨rfl,hb⟩;have HB2:=Lib.hid (below_call (bset HB1.out (Nat.le_refl _) _) hb);have HT2:=Lib.hid ((HT1.out.set1 s).below hb);clear hb)
      | (go_at_call 137;refine (HM.out _ _).mono ?_;rintro e w3 ⟨rfl,hb⟩;have X:=Lib.hid (below_call HB2.out hb);have Y:=Lib.hid (HT2.out.below hb);clear HB2 HT2 hb;have HB2:=X;have HT2:=Y;clear X Y;have d0:=HT2.out.c0;have d1:=HT2.out.c1;have d2:=HT2.out.c2;have d3:=HT2.out.c3;have e0:=HT2.out.fr 0;have e1:=HT2.out.fr 1;have e2:=HT2.out.fr 2;have e3:=HT2.out.fr 3)
      | (go_at_call 138;refine (isSymbol_any s _ (HY.out.below HB2.out HY.out.pos)).mono ?_;rintro e w4 ⟨rfl,rfl⟩))
     exact bodyPost_ret (res55 rfl rfl ((HT2.out.set0 4).all 4 s 0 0)) rfl ⟨TokRes_some HR.out,ball (bset HB2.out (Nat.le_refl _) _) (Nat.le_refl _) _ _ _ _⟩
    | false =>
     have HR:=Lib.hid (show tokS s.data.toList=none by rw [HT.out,hk,h1,h2,h3];rfl)
     clear hk HT
     go_enter Tryz.func112,Tryz.ntmps112
     go_wp2_with (first
      | (go_at_call 135;refine (HI.out _).mono ?_;rintro e w1 ⟨rfl,hb⟩;have HB1:=Lib.hid (below_call HA.out hb);have HT1:=Lib.hid (HN.out.below hb);clear hb;have c0:=HT1.out.c0;have c1:=HT1.out.c1;have c2:=HT1.out.c2;have c3:=HT1.out.c3;have f0:=HT1.out.fr 0;have f1:=HT1.out.fr 1;have f2:=HT1.out.fr 2;have f3:=HT1.out.fr 3)
      | (go_at_call 136;refine (HK.out _).mono ?_;rintro e w2 ⟨rfl,hb⟩;have HB2:=Lib.hid (below_call (bset HB1.out (Nat.le_refl _) _) hb);have HT2:=Lib.hid ((HT1.out.set1 s).below hb);clear hb)
      | (go_at_call 137;refine (HM.out _ _).mono ?_;rintro e w3 ⟨rfl,hb⟩;have X:=Lib.hid (below_call HB2.out hb);have Y:=Lib.hid (HT2.out.below hb);clear HB2 HT2 hb;have HB2:=X;have HT2:=Y;clear X Y;have d0:=HT2.out.c0;have d1:=HT2.out.c1;have d2:=HT2.out.c2;have d3:=HT2.out.c3;have e0:=HT2.out.fr 0;have e1:=HT2.out.fr 1;have e2:=HT2.out.fr 2;have e3:=HT2.out.fr 3)
      | (go_at_call 138;refine (isSymbol_any s _ (HY.out.below HB2.out HY.out.pos)).mono ?_;rintro e w4 ⟨rfl,rfl⟩))
     exact bodyPost_ret (res55 rfl rfl (HT2.out.all 0 ⟨#[]⟩ 0 0)) rfl ⟨TokRes_none HR.out,ball HB2.out (Nat.le_refl _) _ _ _ _⟩
theorem tokenOf_any (s:ByteArray)(w:World)(hs:s.size≤maxLen)(hY:Syms w) :
  Calls Tryz.prog 112 #[.string s] w fun e w'=>e=TokRes (tokS s.data.toList)∧Below w.heap.size w w':=by
 cases h:integerS s.data.toList with
 | some n=>exact tokenOf_int s n w hs h
 | none=>exact tokenOf_rest s w hs hY h
end Go.Proofs.YtpjabnemkmdobaaGreatDoor
namespace Go.Proofs.YtpjabnemkmdobaaGreatDoor
open Go.RowKit
theorem part_word (l:List UInt8)(h:wordLen l≠0):partOf l=l.take (wordLen l):=by unfold partOf;rw [if_neg h]
theorem part_sym (l:List UInt8)(h:wordLen l=0):partOf l=symAt l:=by unfold partOf;rw [if_pos h]
theorem extract_take (s:ByteArray)(p n:Nat):s.extract p (p+n)=strB ((s.data.toList.drop p).take n):=by
 apply Go.WideShapes.bytes_inj
 rw [Lib.extract_data,data_strB,Nat.add_sub_cancel_left]
theorem strB_ne_list {l:List UInt8}(h:l≠[]):(strB l).toList.isEmpty=false:=by rw [ByteArray.toList_eq,data_strB];simpa using h
def bound (f:Nat)(b:Nat):Value:=.func (.func f) #[.pointer (some ⟨b,0,none⟩)] #[]
def Ways (w:World)(g b:Nat):Prop:=w.heap[g]?=some (.cells #[bound 110 b,bound 111 b] 43 (0,0))
theorem Ways.lt {w:World}{g b:Nat}(h:Ways w g b):g < w.heap.size:=(Array.getElem?_eq_some_iff.1 h).1
theorem Ways.c0 {w:World}{g b:Nat}(h:Ways w g b):w.cell? ⟨g,0,none⟩=some (.func (.func 110) #[.pointer (some ⟨b,0,none⟩)] #[]):=cell_of_row w g 0 _ 43 (0,0) h
theorem Ways.c1 {w:World}{g b:Nat}(h:Ways w g b):w.cell? ⟨g,1,none⟩=some (.func (.func 111) #[.pointer (some ⟨b,0,none⟩)] #[]):=cell_of_row w g 1 _ 43 (0,0) h
theorem Ways.kept {w w':World}{g b:Nat}(h:Ways w g b){row:Option Nat}(hg:w.grownBy w' row)(hne:some g≠row):Ways w' g b:=(hg.block g h.lt hne).trans h
theorem Ways.ne {w:World}{g b:Nat}{s:ByteArray}{p q:Int}(h:Ways w g b)(hs:Src w b s p q):g≠b:=by
 rintro rfl
 unfold Ways at h;unfold Src at hs
 rw [h] at hs
 injection hs with hs
 injection hs with _ ht
 cases ht
set_option maxHeartbeats 1000000 in
theorem firstOf_any (g b:Nat)(s:ByteArray)(p:Nat)(q:Int)(w:World)(hS:Src w b s p q)(hY:Syms w)(hb0:b≠1)(hW:Ways w g b)(hs:s.size≤30000)(hp:p≤s.size) :
  Calls Tryz.prog 113 #[.slice (some ⟨g,0,none⟩) 2 2] w fun e w'=>e=.returned (.string (strB (partOf (s.data.toList.drop p))))∧Moved w w' b s ((p+(partOf (s.data.toList.drop p)).length:Nat):Int) q:=by
 have HS:=Lib.hid hS
 have HW:=Lib.hid hW
 have HY:=Lib.hid hY
 clear hS hW hY
 go_enter Tryz.func113,Tryz.ntmps113
 go_wp2_with fail
 go_loopw [8] (fun i wr=>∃ k:Nat,i=.int .i64 (k:Int)∧k≤2∧Hid (Src wr b s p q)∧Hid (w.grownBy wr (some b))∧Hid (1≤k→wordLen (s.data.toList.drop p)=0)∧Hid (2≤k→partOf (s.data.toList.drop p)=[])) (fun i _=>2 - (intOf i).toNat)
 case atStart=>exact ⟨0,rfl,by omega,HS,World.grownBy.refl _ _,(fun h=>by omega),(fun h=>by omega)⟩
 case round =>
  obtain ⟨k,rfl,hk,HS1,HG,H1,H2⟩:=hrel
  have HW1:=Lib.hid (HW.out.kept HG.out (by simp [HW.out.ne HS.out]))
  have w0:=HW1.out.c0
  have w1:=HW1.out.c1
  have HY1:=Lib.hid (HY.out.grown HG.out (by simp;omega))
  obtain rfl | rfl | rfl:k=0∨k=1∨k=2:=by omega
  ·by_cases hw:wordLen (s.data.toList.drop p)=0
   ·have HC:Hid (∀ w,Src w b s p q→Calls Tryz.prog 110 #[.pointer (some ⟨b,0,none⟩)] w fun e w'=>e=.returned (.string ⟨#[]⟩)∧Moved w w' b s p q):=fun w h=>(word_any b s p q w h hs hp).mono fun e w' h=>⟨by rw [h.1,extract_take,hw];rfl,by have:=h.2;rw [hw] at this;exact this⟩
    have HWL:=Lib.hid hw
    clear hw
    go_wp2_with (go_at_call 110;refine (HC.out _ HS1.out).mono ?_;rintro e w2 ⟨rfl,HM⟩)
    go_roundw
    case rel=>exact ⟨1,rfl,by omega,HM.1,grown_trans HG.out HM.2,(fun _=>HWL.out),(fun h=>by omega)⟩
    case measure=>simp [intOf]
   ·have HP:=Lib.hid (part_word _ hw)
    have hne:partOf (s.data.toList.drop p)≠[]:=by
     rw [HP.out];intro h
     have:=congrArg List.length h
     rw [List.length_take,Nat.min_eq_left (wordLen_le _)] at this
     exact hw this
    have HC:Hid (∀ w,Src w b s p q→Calls Tryz.prog 110 #[.pointer (some ⟨b,0,none⟩)] w fun e w'=>e=.returned (.string (strB (partOf (s.data.toList.drop p))))∧Moved w w' b s ((p+(partOf (s.data.toList.drop p)).length:Nat):Int) q):=fun w h=>(word_any b s p q w h hs hp).mono fun e w' h=>⟨by rw [h.1,extract_take,HP.out],by
     have:=h.2
     rw [HP.out,List.length_take,Nat.min_eq_left (wordLen_le _)];exact this⟩
    have hb:=strB_ne_list hne
    clear hw hne HP
    go_wp2_with (go_at_call 110;refine (HC.out _ HS1.out).mono ?_;rintro e w2 ⟨rfl,HM⟩)
    go_ret
    exact ⟨rfl,HM.1,grown_trans HG.out HM.2⟩
  ·have HP:=Lib.hid (part_sym _ (H1.out (by omega)))
   have HC:Hid (∀ w,Src w b s p q→Syms w→Calls Tryz.prog 111 #[.pointer (some ⟨b,0,none⟩)] w fun e w'=>e=.returned (.string (strB (partOf (s.data.toList.drop p))))∧Moved w w' b s ((p+(partOf (s.data.toList.drop p)).length:Nat):Int) q):=fun w h h2=>(symbol_any b s p q w h h2 hs hp).mono fun e w' h=>⟨by rw [h.1,HP.out],by rw [HP.out];exact h.2⟩
   by_cases hne:partOf (s.data.toList.drop p)=[]
   ·have HC2:Hid (∀ w,Src w b s p q→Syms w→Calls Tryz.prog 111 #[.pointer (some ⟨b,0,none⟩)] w fun e w'=>e=.returned (.string ⟨#[]⟩)∧Moved w w' b s p q):=fun w h h2=>(HC.out w h h2).mono fun e w' h=>⟨by rw [h.1,hne];rfl,by have:=h.2;rw [hne] at this;exact this⟩
    have HN:=Lib.hid hne
    clear hne HC HP
    go_wp2_with (go_at_call 111;refine (HC2.out _ HS1.out HY1.out).mono ?_;rintro e w2 ⟨rfl,HM⟩)
    go_roundw
    case rel=>exact ⟨2,rfl,by omega,HM.1,grown_trans HG.out HM.2,(fun _=>H1.out (by omega)),(fun _=>HN.out)⟩
    case measure=>simp [intOf]
   ·have hb:=strB_ne_list hne
    clear hne HP
    go_wp2_with (go_at_call 111;refine (HC.out _ HS1.out HY1.out).mono ?_;rintro e w2 ⟨rfl,HM⟩)
    go_ret
    exact ⟨rfl,HM.1,grown_trans HG.out HM.2⟩
  ·have HN:=Lib.hid (H2.out (by omega))
   go_wp2_with fail
   go_ret
   rw [HN.out]
   exact ⟨rfl,HS1.out,HG.out⟩
end Go.Proofs.YtpjabnemkmdobaaGreatDoor
namespace Go.Proofs.YtpjabnemkmdobaaGreatDoor
open Go.RowKit Go.Shelf
attribute [local go_sem] Oper.semAt_some
def tkArg (x:Tk):Value:=.agg #[.int .i64 x.kind,.string (strB x.s),.int .i64 x.n,.int .i64 (x.pos:Int)]
def Abd (bs:Nat)(J:List Tk→World→Prop):Prop:=∀ pre W W',J pre W→W.grownBy W' (some bs)→J pre W'
def Kp (n0:Nat)(W W':World):Prop:=Below n0 W W'∧∀ (k:Nat) (cs:Array Value) (t:TypeId) (fr:Nat × Nat),W.heap[k]?=some (Obj.cells cs t fr)→t≠69→t≠74→W'.heap[k]?=W.heap[k]?
def posOf (b:Nat)(w:World):Nat:=(intOf ((w.cell? ⟨b,1,none⟩).getD undef)).toNat
theorem posOf_src {w:World}{b:Nat}{s:ByteArray}{p q:Int}(h:Src w b s p q):posOf b w=p.toNat:=by unfold posOf;rw [h.c1];rfl
theorem grown_drew (w:World)(row:Option Nat):w.grownBy w.drew row:=⟨rfl,rfl,rfl,Nat.le_refl _,fun _ _ _=>rfl⟩
theorem noGoto_n {Q:Exit→Act→World→Prop}{a:Act}{w:World}(h:Q .normal a w):Exit.noGoto Q .normal a w:=by unfold Exit.noGoto;exact h
theorem fin_src {w:World}{b:Nat}{s:ByteArray}{p:Nat}{q:Int}(h:Src w b s p q):Src w b s (posOf b w) q:=by
 rw [posOf_src h,Int.toNat_natCast];exact h
set_option maxRecDepth 100000 in
set_option maxHeartbeats 1000000 in
theorem tokens_in (n l b n0:Nat)(s:ByteArray)(xs:List Tk)(fin:Nat)(q0:Int)(J:List Tk→World→Prop)(hJ:Abd b J)(hn:3≤n)
  (hY:∀ pre x W,J pre W→pre++[x] <+: xs→YieldAt Fence.wide (n - 1) Tryz.prog l #[tkArg x] W fun e W'=>e=.returned (.bool true)∧J (pre++[x]) W'∧Kp n0 W W')
  (W:World) (hS:Src W b s 0 q0) (hE:Syms W) (hb0:b≠1) (hn0:1 < n0) (hs:s.size≤30000) (hx:lexF (s.size+1) 0 s.data.toList=(xs,fin)) (h0:J [] W) :
  CallsIn Fence.wide n Tryz.prog 82 #[.pointer (some ⟨b,0,none⟩),.func (.yield l) #[] #[]] W fun e W'=>(∃ v,e=.returned v)∧J xs W'∧Src W' b s (posOf b W') (fin:Int):=by
 refine callsIn_of_wp Tryz.func82 rfl trivial ?_ rfl
 simp only [Tryz.ntmps82,List.size_toArray,List.length_cons,List.length_nil,Nat.reduceAdd,Nat.reduceSub,Array.replicate_succ,Array.replicate_zero,List.push_toArray,List.append_toArray,List.nil_append,List.cons_append]
 have HS:=Lib.hid hS
 have HE:=Lib.hid hE
 have HX:=Lib.hid hx
 have HY:=Lib.hid hY
 have HJ:=Lib.hid hJ
 have HJ0:=Lib.hid h0
 clear hS hE hx hY hJ h0
 refine wpIn_wide.2 (wp_scope_straight ((wpIn_wide (n:=n)).1 ?_))
 gi_wp2
 gi_region
 gi_wp2
 refine wpIn_label ?_
 have HS0:Hid (Src ((W.alloc (.cells #[.func (.func 110) #[.pointer (some ⟨b,0,none⟩)] #[],.func (.func 111) #[.pointer (some ⟨b,0,none⟩)] #[]] 43)).drew) b s 0 q0):=HS.out.kept (grown_trans (World.grownBy_alloc W _ none) (grown_drew _ none)) (by simp)
 have HW0:Hid (Ways ((W.alloc (.cells #[.func (.func 110) #[.pointer (some ⟨b,0,none⟩)] #[],.func (.func 111) #[.pointer (some ⟨b,0,none⟩)] #[]] 43)).drew) W.heap.size b):=heap_alloc_new W _
 have HE0:Hid (Syms ((W.alloc (.cells #[.func (.func 110) #[.pointer (some ⟨b,0,none⟩)] #[],.func (.func 111) #[.pointer (some ⟨b,0,none⟩)] #[]] 43)).drew)):=HE.out.grown (grown_trans (World.grownBy_alloc W _ none) (grown_drew _ none)) (by simp)
 have HJ1:Hid (J [] ((W.alloc (.cells #[.func (.func 110) #[.pointer (some ⟨b,0,none⟩)] #[],.func (.func 111) #[.pointer (some ⟨b,0,none⟩)] #[]] 43)).drew)):=HJ.out [] W _ HJ0.out (grown_trans (World.grownBy_alloc W _ (some b)) (grown_drew _ _))
 clear HS HE HJ0
 obtain ⟨g,hg⟩:∃ g,g=W.heap.size:=⟨_,rfl⟩
 gi_wp2
 gi_loopw [] (fun wr=>∃ (pre rest:List Tk) (p f:Nat) (q:Int),Hid (xs=pre++rest)∧Hid (Src wr b s p q)∧p≤s.size∧s.size+1≤f+p∧Hid (lexF f p (s.data.toList.drop p)=(rest,fin))∧Hid (Ways wr W.heap.size b)∧Hid (Syms wr)∧Hid (J pre wr)) (fun wr=>s.size - posOf b wr)
 case atStart=>exact ⟨[],xs,0,s.size+1,q0,rfl,HS0,by omega,by omega,HX,HW0,HE0,HJ1⟩
 case round =>
  clear HS0 HW0 HE0 HJ1 HX
  obtain ⟨pre,rest,p,f,q,HX,HS,hp,hf,HL,HW,HE,HJp⟩:=hrel
  obtain ⟨f,rfl⟩:∃ f',f=f'+1:=⟨f - 1,by omega⟩
  have h1n:1≤n:=by omega
  obtain ⟨o,ho⟩:∃ o,o=p+spLen false (s.data.toList.drop p):=⟨_,rfl⟩
  have hos:o≤s.size:=by
   have:=spLen_le false (s.data.toList.drop p)
   rw [List.length_drop,len_data] at this;omega
  have hpl:o+(partOf (s.data.toList.drop o)).length≤s.size:=by
   have:=partOf_le (s.data.toList.drop o)
   rw [List.length_drop,len_data] at this;omega
  have hpo:p≤o:=by omega
  have HSP:Hid (Calls Tryz.prog 109 #[.pointer (some ⟨b,0,none⟩)] wr fun e w'=>(∃ v,e=.returned (.string v))∧Moved wr w' b s (o:Int) q):=(space_any b s p q wr HS.out hs hp).mono fun e w' h=>⟨⟨_,h.1⟩,by rw [ho];exact h.2⟩
  have HFO:Hid (∀ w,Src w b s o o→Syms w→Ways w W.heap.size b→Calls Tryz.prog 113 #[.slice (some ⟨W.heap.size,0,none⟩) 2 2] w fun e w'=>e=.returned (.string (strB (partOf (s.data.toList.drop o))))∧Moved w w' b s ((o+(partOf (s.data.toList.drop o)).length:Nat):Int) o):=fun w h1 h2 h3=>firstOf_any _ b s o o w h1 h2 hb0 h3 hs hos
  have HLS:=Lib.hid (fun (h:tokS (partOf (s.data.toList.drop o))=none)=>(HL.out.symm.trans (lexF_none ho h):(rest,fin)=([],o)))
  have HLT:=Lib.hid (fun (k n:Int) (t:List UInt8) (h:tokS (partOf (s.data.toList.drop o))=some (k,t,n))=>(HL.out.symm.trans (lexF_some ho h)))
  have HPP:=Lib.hid (fun (x:Int × List UInt8 × Int) (h:tokS (partOf (s.data.toList.drop o))=some x)=>part_pos h)
  clear HL
  have HO:=Lib.hid ho
  clear ho
  obtain ⟨part,hpart⟩:∃ part,part=partOf (s.data.toList.drop o):=⟨_,rfl⟩
  rw [← hpart] at hpl HFO HLS HLT HPP
  clear hpart
  have hps:(strB part).size≤maxLen:=by rw [← len_data,data_strB];unfold maxLen;omega
  have hM0:=posOf_src HS.out
  have HM0:=Lib.hid hM0
  clear hM0
  cases htk:tokS part with
  | none =>
   have HT:Hid (∀ w,Syms w→Calls Tryz.prog 112 #[.string (strB part)] w fun e w'=>e=.returned (.tuple #[.agg #[.int .i64 0,.string ⟨#[]⟩,.int .i64 0,.int .i64 0],.bool false])∧Below w.heap.size w w'):=fun w h=>(tokenOf_any _ w hps h).mono fun e w' h=>⟨by rw [h.1,data_strB,htk];rfl,h.2⟩
   have hend:=HLS.out htk
   clear HLS HLT HPP hps htk
   gi_wp2_with (first
    | (refine ⟨trivial,?_⟩;gi_at_call 109;refine (callsIn_wide.2 HSP.out).mono ?_;rintro e w2 ⟨⟨v,rfl⟩,HM2⟩;have HS2:=Lib.hid HM2.1;have HG2:=Lib.hid HM2.2;clear HM2;have c1:=HS2.out.c1;have f2:=HS2.out.fr 2;have d2:=HS2.out.c2)
    | (refine ⟨trivial,?_⟩;gi_at_call 113;refine (callsIn_wide.2 (HFO.out _ (HS2.out.set2 o) (HE.out.grown (grown_trans HG2.out (grown_set _ ⟨b,2,none⟩ _)) (by simp;omega)) (HW.out.kept (grown_trans HG2.out (grown_set _ ⟨b,2,none⟩ _)) (by simp [HW.out.ne HS.out])))).mono ?_;rintro e w3 ⟨rfl,HM3⟩;have HS3:=Lib.hid HM3.1;have HG3:=Lib.hid (grown_trans (grown_trans HG2.out (grown_set _ ⟨b,2,none⟩ (.int .i64 (o:Int)))) HM3.2);clear HM3)
    | (refine ⟨trivial,?_⟩;gi_at_call 112;refine (callsIn_wide.2 (HT.out _ (HE.out.grown HG3.out (by simp;omega)))).mono ?_;rintro e w5 ⟨rfl,hb5⟩;have HG5:=Lib.hid (grown_trans HG3.out (grown_below hb5 _));have HS5:=Lib.hid (HS3.out.below hb5 HS3.out.lt);clear hb5;have g2:=HS5.out.c2;have hl5:=HS5.out.lt))
   refine noGoto_n ?_
   go_end0
   obtain ⟨hr,hfn⟩:=Prod.mk.inj hend
   refine ⟨⟨_,rfl⟩,?_,?_⟩
   ·rw [HX.out,hr,List.append_nil]
    exact HJ.out pre _ _ HJp.out (grown_trans HG5.out (World.grownBy_alloc w5 _ (some b)))
   ·rw [hfn]
    exact fin_src (HS5.out.kept (World.grownBy_alloc w5 _ none) (by simp))
  | some x =>
   obtain ⟨k,t,m⟩:=x
   have HT:Hid (∀ w,Syms w→Calls Tryz.prog 112 #[.string (strB part)] w fun e w'=>e=.returned (.tuple #[.agg #[.int .i64 k,.string (strB t),.int .i64 m,.int .i64 0],.bool true])∧Below w.heap.size w w'):=fun w h=>(tokenOf_any _ w hps h).mono fun e w' h=>⟨by rw [h.1,data_strB,htk];rfl,h.2⟩
   have hend:=HLT.out k m t htk
   have hpos:=HPP.out _ htk
   obtain ⟨hr,hfn⟩:=Prod.mk.inj hend
   obtain ⟨rest',hrest⟩:∃ r,r=(lexF f (o+part.length) (s.data.toList.drop (o+part.length))).1:=⟨_,rfl⟩
   rw [← hrest] at hr
   have HL2:Hid (lexF f (o+part.length) (s.data.toList.drop (o+part.length))=(rest',fin)):=by
    show _=_;rw [hrest,hfn]
   have HX2:Hid (xs=(pre++[⟨k,t,m,o⟩])++rest'):=by show _=_;rw [HX.out,hr,List.append_assoc];rfl
   have HPre:Hid (pre++[⟨k,t,m,o⟩] <+: xs):=⟨rest',HX2.out.symm⟩
   clear HLS HLT HPP hps htk hend hr hfn hrest HX
   gi_wp2_with (first
    | (refine ⟨trivial,?_⟩;gi_at_call 109;refine (callsIn_wide.2 HSP.out).mono ?_;rintro e w2 ⟨⟨v,rfl⟩,HM2⟩;have HS2:=Lib.hid HM2.1;have HG2:=Lib.hid HM2.2;clear HM2;have c1:=HS2.out.c1;have f2:=HS2.out.fr 2;have d2:=HS2.out.c2)
    | (refine ⟨trivial,?_⟩;gi_at_call 113;refine (callsIn_wide.2 (HFO.out _ (HS2.out.set2 o) (HE.out.grown (grown_trans HG2.out (grown_set _ ⟨b,2,none⟩ _)) (by simp;omega)) (HW.out.kept (grown_trans HG2.out (grown_set _ ⟨b,2,none⟩ _)) (by simp [HW.out.ne HS.out])))).mono ?_;rintro e w3 ⟨rfl,HM3⟩;have HS3:=Lib.hid HM3.1;have HG3:=Lib.hid (grown_trans (grown_trans HG2.out (grown_set _ ⟨b,2,none⟩ (.int .i64 (o:Int)))) HM3.2);clear HM3)
    | (refine ⟨trivial,?_⟩;gi_at_call 112;refine (callsIn_wide.2 (HT.out _ (HE.out.grown HG3.out (by simp;omega)))).mono ?_;rintro e w5 ⟨rfl,hb5⟩;have HG5:=Lib.hid (grown_trans HG3.out (grown_below hb5 _));have HS5:=Lib.hid (HS3.out.below hb5 HS3.out.lt);clear hb5;have g2:=HS5.out.c2;have hl5:=HS5.out.lt;have HJ5:Hid (J pre (w5.alloc (Obj.cells #[.int .i64 k,.string (strB t),.int .i64 m,.int .i64 (o:Int)] 74))):=HJ.out pre _ _ HJp.out (grown_trans HG5.out (World.grownBy_alloc w5 _ (some b)));obtain ⟨fn,tmps,assign,body,hy0,hR⟩:=HY.out pre ⟨k,t,m,o⟩ _ HJ5.out HPre.out;have hy:(Instr.yield l #[.agg #[.int .i64 k,.string (strB t),.int .i64 m,.int .i64 (o:Int)]]).run Tryz.prog (w5.alloc (Obj.cells #[.int .i64 k,.string (strB t),.int .i64 m,.int .i64 (o:Int)] 74))=_:=hy0;clear hy0;have HR:=Lib.hid hR;clear hR))
   refine HR.out.mono ?_
   rintro e W3 ⟨rfl,hJ3,hK3⟩
   have HJ3:=Lib.hid hJ3
   have HSa:Hid (Src (w5.alloc (Obj.cells #[.int .i64 k,.string (strB t),.int .i64 m,.int .i64 (o:Int)] 74)) b s ((o+part.length:Nat):Int) o):=HS5.out.kept (World.grownBy_alloc w5 _ none) (by simp)
   have HWa:Hid (Ways (w5.alloc (Obj.cells #[.int .i64 k,.string (strB t),.int .i64 m,.int .i64 (o:Int)] 74)) W.heap.size b):=HW.out.kept (grown_trans HG5.out (World.grownBy_alloc w5 _ (some b))) (by simp [HW.out.ne HS.out])
   have HEa:Hid (Syms (w5.alloc (Obj.cells #[.int .i64 k,.string (strB t),.int .i64 m,.int .i64 (o:Int)] 74))):=HE.out.grown (grown_trans HG5.out (World.grownBy_alloc w5 _ (some b))) (by simp;omega)
   have HS3b:Hid (Src W3 b s ((o+part.length:Nat):Int) o):=(hK3.2 b _ 115 (0,0) HSa.out (by decide) (by decide)).trans HSa.out
   have HW3b:Hid (Ways W3 W.heap.size b):=(hK3.2 _ _ 43 (0,0) HWa.out (by decide) (by decide)).trans HWa.out
   have HE3b:Hid (Syms W3):=HEa.out.below hK3.1 hn0
   clear hJ3 hK3 HSa HWa HEa
   gi_wp2
   go_roundw
   case rel=>exact ⟨pre++[⟨k,t,m,o⟩],rest',o+part.length,f,o,HX2,HS3b,hpl,by omega,HL2,HW3b,HE3b,HJ3⟩
   case measure =>
    have e1:=posOf_src HS3b.out
    have e2:=HM0.out
    rw [Int.toNat_natCast] at e1 e2
    rw [e1,e2]
    omega
end Go.Proofs.YtpjabnemkmdobaaGreatDoor
namespace Go.Proofs.YtpjabnemkmdobaaGreatDoor
open Go.RowKit Go.Shelf
def tkCells (x:Tk):List Value:=[.int .i64 x.kind,.string (strB x.s),.int .i64 x.n,.int .i64 (x.pos:Int)]
def flat (l:List Tk):List Value:=l.flatMap tkCells
theorem flat_snoc (l:List Tk)(x:Tk):flat (l++[x])=flat l++tkCells x:=by simp [flat]
theorem Kp.refl (n0:Nat)(W:World):Kp n0 W W:=⟨Below.refl _ _,fun _ _ _ _ _ _ _=>rfl⟩
theorem Kp.trans {n0:Nat}{A B C:World}(h:Kp n0 A B)(k:Kp n0 B C):Kp n0 A C :=
 ⟨h.1.trans k.1,fun i cs t fr hi h1 h2=>by
  have e:=h.2 i cs t fr hi h1 h2
  exact (k.2 i cs t fr (e.trans hi) h1 h2).trans e⟩
theorem Kp.alloc {n0:Nat}(W:World)(o:Obj)(h:n0≤W.heap.size):Kp n0 W (W.alloc o) :=
 ⟨(Below.refl _ _).alloc h o,fun i _ _ _ hi _ _=>Below.heap_alloc W o i (Array.getElem?_eq_some_iff.1 hi).1⟩
theorem Kp.putObj {n0:Nat}{W:World}{l:Nat}{o:Obj}(o':Obj)(h:n0≤l)(hl:W.heap[l]?=some o)(ho:o.isCells=false):Kp n0 W (W.putObj l o') :=
 ⟨(Below.refl n0 W).grown (grownBy_putObj' W l o') (by have:=(Array.getElem?_eq_some_iff.1 hl).1;omega) (fun k e=>by cases e;exact h),fun i cs t fr hi _ _ =>
  World.putObj_heap_other (fun e=>by rw [e,hl] at hi;cases hi;cases ho)⟩
def roundQ (n0:Nat)(I:List Tk→World→Prop)(xs:List Tk)(W:World):Exit→Act→World→Prop
 | .normal,_,W'=>KeepsOthers W W'∧Kp n0 W W'∧I xs W'
 | _,_,_=>False
theorem lex_range {n:Nat}{a:Act}{w:World}{g:Operand}{p:Tmp}{assign body:Code}{Q:Exit→Act→World→Prop}(hn:9≤n)(b n0:Nat)(s:ByteArray)(xs:List Tk)(fin:Nat)(q0:Int)
  (hg:a.eval g=.func (.func 82) #[.pointer (some ⟨b,0,none⟩)] #[])
  (hS:Src w b s 0 q0) (hE:Syms w) (hb0:b≠1) (hn0:1 < n0) (hnw:n0≤w.heap.size) (hs:s.size≤30000) (hx:lexF (s.size+1) 0 s.data.toList=(xs,fin))
  (I:List Tk→World→Prop) (hI:∀ pre W W',I pre W→W.grownBy W' (some b)→I pre W')
  (hIp:∀ pre W l o o',I pre W→W.heap[l]?=some o→o.isCells=false→w.heap.size≤l→I pre (W.putObj l o')) (h0:I [] w) (a₁:Tk→Nat→Act)
  (hassign:∀ (l:Nat) (x:Tk) (W:World) (K:Act→World→Prop),K (a₁ x W.heap.size) (W.alloc (Obj.cells (tkCells x).toArray 74)) →
   assign.wpIn (Fence.wide.inRound l) (n - 1 - 1) Tryz.prog (Exit.then K (fun _ _ _=>False)) { tmps:=(#[p].zip #[tkArg x]).foldl (fun t (p,v)=>t.setIfInBounds p v) a.tmps,defers:=[] } W)
  (hbody:∀ (l:Nat) (pre:List Tk) (x:Tk) (W:World) (c:Nat),I pre W→W.heap[c]?=some (Obj.cells (tkCells x).toArray 74 (0,0))→n0≤W.heap.size→pre++[x] <+: xs →
   body.wpIn (Fence.wide.inRound l) (n - 1 - 1) Tryz.prog (roundQ n0 I (pre++[x]) W) (a₁ x c) W)
  (hdone:∀ (D:Nat) (W:World),w.heap.size≤D→I xs W→Src W b s (posOf b W) (fin:Int)→W.heap[D]?=some (.deferred (some []))→Q .normal { a with defers:={ target:=.collected D,args:=#[] } :: a.defers } W) :
  (Code.rangeFunc g #[p] assign body).wpIn Fence.wide n Tryz.prog Q a w:=by
 refine wpIn_rangeFunc ?_
 intro fn hfn
 rw [show Fence.wide.round=none from rfl]
 obtain ⟨rec,hrec⟩:∃ rec:LoopState→Option Code→Loop,rec=fun st pe=>{ state:=st,pending:=pe,fn,tmps:=a.tmps,params:=#[p],assign,body,defers:=w.heap.size }:=⟨_,rfl⟩
 obtain ⟨W1,hW1⟩:∃ W1,(w.alloc (.deferred (some []))).alloc (.loop (rec .ready none))=W1:=⟨_,rfl⟩
 have hL1:W1.heap[w.heap.size+1]?=some (.loop (rec .ready none)):=by
  rw [← hW1];have:=World.alloc_heap_new (w.alloc (.deferred (some []))) (.loop (rec .ready none));rwa [World.size_alloc] at this
 have hK1:W1.heap[w.heap.size]?=some (.deferred (some [])):=by
  rw [← hW1];exact (Below.heap_alloc _ _ _ (by simp)).trans (World.alloc_heap_new w _)
 have hg1:∀ row,w.grownBy W1 row:=fun row=>by rw [← hW1];exact grown_trans (World.grownBy_alloc _ _ _) (World.grownBy_alloc _ _ _)
 have hbl:=hS.lt
 refine ⟨w.heap.size+1,[{ target:=.collected w.heap.size,args:=#[] }],W1,{ target:=.fn (.func 82) #[],args:=#[.pointer (some ⟨b,0,none⟩),.func (.yield (w.heap.size+1)) #[] #[]] },W1,82,
  #[.pointer (some ⟨b,0,none⟩),.func (.yield (w.heap.size+1)) #[] #[]],W1,?_,?_,?_,?_,fun _=>by omega,?_⟩
 ·rw [← hW1,hrec];exact run_enterLoop_outer _ _ _ _ _
 ·simp only [resolve,hg]
  simp [go_sem]
 ·intro f' hf';trivial
 ·have eg:∀ args w,(callFunc 82 args).run Tryz.prog w=.ok (.enter 82 args) w:=enters_of Tryz.func82 (by kernel_rfl) rfl
  simp [invoke,go_sem,eg]
 ·refine (tokens_in (n - 1) (w.heap.size+1) b n0 s xs fin q0
   (fun pre W=>I pre W∧W.heap[w.heap.size+1]?=some (.loop (rec .ready none))∧W.heap[w.heap.size]?=some (.deferred (some []))∧n0≤W.heap.size) ?_ (by omega) ?_ W1 (hS.kept (hg1 none) (by simp)) (hE.grown (hg1 none) (by simp)) hb0 hn0 hs hx
   ⟨hI _ _ _ h0 (hg1 _),hL1,hK1,Nat.le_trans hnw (hg1 none).size⟩).mono ?_
  ·rintro pre A B ⟨hi,hl,hk,hz⟩ hgr
   have l1:=(Array.getElem?_eq_some_iff.1 hl).1
   exact ⟨hI _ _ _ hi hgr,(hgr.block _ l1 (by simp;omega)).trans hl,(hgr.block _ (by omega) (by simp;omega)).trans hk,Nat.le_trans hz hgr.size⟩
  ·
   rintro pre x W ⟨hi,hl,hk,hz⟩ hpre
   have hlt:w.heap.size+1 < W.heap.size:=(Array.getElem?_eq_some_iff.1 hl).1
   have hy:=run_yield (P:=Tryz.prog) (args:=#[tkArg x]) hl (by rw [hrec];rfl)
   rw [hrec] at hy
   refine ⟨fn,_,assign,body,hy,roundIn_of_wpIn hfn ?_⟩
   obtain ⟨WA,hWA⟩:∃ WA,W.alloc (Obj.cells (tkCells x).toArray 74)=WA:=⟨_,rfl⟩
   have hgA:∀ row,W.grownBy WA row:=fun row=>by rw [← hWA];exact World.grownBy_alloc _ _ _
   have hlA:WA.heap[w.heap.size+1]?=some (.loop (rec .ready none)):=((hgA none).block _ hlt (by simp)).trans hl
   have hkA:WA.heap[w.heap.size]?=some (.deferred (some [])):=((hgA none).block _ (by omega) (by simp)).trans hk
   have hcA:WA.heap[W.heap.size]?=some (Obj.cells (tkCells x).toArray 74 (0,0)):=by rw [← hWA];exact World.alloc_heap_new W _
   have hltA:w.heap.size+1 < WA.heap.size:=(Array.getElem?_eq_some_iff.1 hlA).1
   have hzA:n0≤WA.heap.size:=Nat.le_trans hz (hgA none).size
   refine hassign _ x W _ ?_
   rw [hWA]
   refine ⟨_,run_beginRound hlA (by rw [hrec]),?_⟩
   have hl2:(WA.putObj (w.heap.size+1) (.loop { rec .ready none with state:=.busy })).heap[w.heap.size+1]?=some (.loop { rec .ready none with state:=.busy }):=World.putObj_heap_same hltA
   have hk2:(WA.putObj (w.heap.size+1) (.loop { rec .ready none with state:=.busy })).heap[w.heap.size]?=some (.deferred (some [])):=(World.putObj_heap_other (by omega)).trans hkA
   have hc2:(WA.putObj (w.heap.size+1) (.loop { rec .ready none with state:=.busy })).heap[W.heap.size]?=some (Obj.cells (tkCells x).toArray 74 (0,0)):=(World.putObj_heap_other (by omega)).trans hcA
   have hw2:Kp n0 W (WA.putObj (w.heap.size+1) (.loop { rec .ready none with state:=.busy })):=Kp.trans (by rw [← hWA];exact Kp.alloc W _ hz) (Kp.putObj _ (by omega) hlA rfl)
   have hi2:=hIp pre _ _ _ (.loop { rec .ready none with state:=.busy }) (hI _ _ _ hi (hgA _)) hlA rfl (by omega)
   refine wpIn_mono (hbody _ pre x _ _ hi2 hc2 (by rw [World.putObj_size];exact hzA) hpre) ?_
   rintro e a3 W3 hp
   cases e with
   | normal =>
    obtain ⟨hk3,hkp3,hi3⟩:=hp
    have hl3:=hk3.same _ _ hl2 rfl
    have hd3:=hk3.same _ _ hk2 rfl
    have hend:=run_endRound (P:=Tryz.prog) none hl3
    have hl4:(W3.putObj (w.heap.size+1) (.loop (rec .ready none))).heap[w.heap.size+1]?=some (.loop (rec .ready none)):=World.putObj_heap_same (Array.getElem?_eq_some_iff.1 hl3).1
    have hd4:(W3.putObj (w.heap.size+1) (.loop (rec .ready none))).heap[w.heap.size]?=some (.deferred (some [])):=(World.putObj_heap_other (by omega)).trans hd3
    rw [hrec] at hend hl4 hd4 hl3
    refine ⟨_,_,hend,rfl,⟨hIp _ _ _ _ _ hi3 hl3 rfl (by omega),?_,?_,?_⟩,?_⟩
    ·rw [hrec];exact hl4
    ·exact hd4
    ·rw [World.putObj_size];exact Nat.le_trans (by rw [World.putObj_size];exact hzA) hkp3.1.size
    ·exact Kp.trans (Kp.trans hw2 (by rw [hrec];rw [hrec] at hkp3;exact hkp3)) (Kp.putObj _ (by omega) hl3 rfl)
   | ret=>exact hp.elim
   | exit id=>exact hp.elim
   | goto t=>exact hp.elim
   | panic ch=>exact hp.elim
   | outgrown=>exact hp.elim
  ·rintro e W2 ⟨⟨v,rfl⟩,⟨hi,hl,hk,hz⟩,hs2⟩
   have hend:=run_endLoop (P:=Tryz.prog) hl (by rw [hrec];simp)
   have hb2:=hs2.lt
   have hne:b≠w.heap.size+1:=by omega
   have hsrc:∀ o',Src (W2.putObj (w.heap.size+1) o') b s (posOf b W2) fin:=fun o'=>(World.putObj_heap_other hne).trans hs2
   rw [hrec] at hend
   refine ⟨none,_,hend,hdone _ _ (Nat.le_refl _) (hIp _ _ _ _ _ hi hl rfl (by omega)) ?_ ((World.putObj_heap_other (by omega)).trans hk)⟩
   have h1:=hsrc (.loop { rec .ready none with state:=.exhausted })
   rw [hrec] at h1
   have h2:=posOf_src h1
   rw [Int.toNat_natCast] at h2
   rw [h2]
   exact h1
end Go.Proofs.YtpjabnemkmdobaaGreatDoor
namespace Go.Proofs.YtpjabnemkmdobaaGreatDoor
open Go.RowKit Go.Shelf
attribute [local go_sem] Oper.semAt_some
theorem info43:(Tryz.prog.info? 74).map (fun i=>(i.zero,i.size,i.bytes))=some (some (.agg #[.int .i64 0,.string ⟨#[]⟩,.int .i64 0,.int .i64 0]),4,40):=by kernel_rfl
def LexPost (w:World)(base:Nat)(r:List Tk × Int × Int)(e:Ending)(w':World):Prop :=
 ∃ v,e=.returned (.tuple #[v,.int .i64 r.2.1,.int .i64 r.2.2])∧w'.ownsRow base 74 4 v r.1.length (flat r.1)∧Below w.heap.size w w'
def LexInv (w:World)(pre:List Tk)(W:World):Prop:=∃ v,Boxed W w.heap.size 69 v∧W.ownsRow (w.heap.size+2) 74 4 v pre.length (flat pre)∧Below w.heap.size w W∧w.heap.size+2≤W.heap.size
theorem LexPost.mk' {w w':World}{base:Nat}{r:List Tk × Int × Int}{xs:List Tk}{a b:Int}{v:Value}(h:r=(xs,a,b))(ho:w'.ownsRow base 74 4 v xs.length (flat xs))(hb:Below w.heap.size w w') :
  LexPost w base r (.returned (.tuple #[v,.int .i64 a,.int .i64 b])) w':=by subst h;exact ⟨v,rfl,ho,hb⟩
theorem owns_weaken {w:World}{b b':Nat}{e:TypeId}{size:Nat}{v:Value}{n:Nat}{xs:List Value}(h:w.ownsRow b e size v n xs)(hb:b'≤b):w.ownsRow b' e size v n xs:=by
 refine ⟨h.1,?_⟩
 rcases h.2 with h2 | ⟨g,cap,cur,h1,h2,h3⟩
 ·exact .inl h2
 ·exact .inr ⟨g,cap,cur,h1,by omega,h3⟩
theorem lexF_len:∀ (f off:Nat) (l:List UInt8),(lexF f off l).1.length≤f
 | 0,_,_=>by simp [lexF]
 | f+1,off,l=>by
  unfold lexF
  split
  ·simp
  ·have:=lexF_len f
   simp only [List.length_cons]
   have:=this (off+spLen false l+(partOf (l.drop (spLen false l))).length) (l.drop (spLen false l+(partOf (l.drop (spLen false l))).length))
   omega
theorem cell_toks (w:World)(x:Tk)(t:TypeId):∀ j u,(tkCells x)[j]?=some u→(w.alloc (.cells (tkCells x).toArray t)).cell? ((⟨w.heap.size,0,none⟩:Addr).add j)=some u:=by
 intro j u hj
 match j,hj with
 | 0,hj=>simp [tkCells] at hj;subst hj;simp [Addr.add,tkCells]
 | 1,hj=>simp [tkCells] at hj;subst hj;simp [Addr.add,tkCells]
 | 2,hj=>simp [tkCells] at hj;subst hj;simp [Addr.add,tkCells]
 | 3,hj=>simp [tkCells] at hj;subst hj;simp [Addr.add,tkCells]
 | j+4,hj=>simp [tkCells] at hj
theorem tk_one (x:Tk):∀ u∈tkCells x,u.oneCell'=true:=by
 intro u hu
 simp only [tkCells,List.mem_cons,List.not_mem_nil,or_false] at hu
 rcases hu with rfl | rfl | rfl | rfl <;> rfl
theorem res14 {tmps:Array Value}{w:World}{g:Nat}{v:Value}{a b:Int}(h2:tmps.getD 2 undef=.pointer (some ⟨g,0,none⟩))(h3:tmps.getD 3 undef=.int .i64 a)(h4:tmps.getD 4 undef=.int .i64 b)(h:Boxed w g 69 v) :
  (results Tryz.f52 tmps).run Tryz.prog w=.ok (.tuple #[v,.int .i64 a,.int .i64 b]) w:=by
 have c0:=h.cell
 have h2':tmps[2]?.getD undef=.pointer (some ⟨g,0,none⟩):=by simpa using h2
 have h3':tmps[3]?.getD undef=.int .i64 a:=by simpa using h3
 have h4':tmps[4]?.getD undef=.int .i64 b:=by simpa using h4
 simp [results,Tryz.results52,go_sem,h2',h3',h4',c0]
theorem round_end {w A w1:World}{v v':Value}{pre:List Tk}{x:Tk}{tmp:Obj}{a:Act}(hv:Boxed A w.heap.size 69 v)(hrow:A.ownsRow (w.heap.size+2) 74 4 v pre.length (flat pre))(hB:Below w.heap.size w A)(hZ:w.heap.size+2≤A.heap.size)
  (hv1:Boxed w1 w.heap.size 69 v) (hown':w1.ownsRow (w.heap.size+2) 74 4 v' (pre.length+1) (flat pre++tkCells x)) (hgrow:(A.alloc tmp).grownBy w1 v.ownBlock) :
  roundQ w.heap.size (LexInv w) (pre++[x]) A .normal a (w1.setCell ⟨w.heap.size,0,none⟩ v'):=by
 have hrowA:=hrow.alloc tmp
 have hown:∀ j,v.ownBlock=some j→w.heap.size+2≤j∧∃ cs fr,(A.alloc tmp).heap[j]?=some (Obj.cells cs 74 fr):=by
  intro j ej
  rcases hrowA.2 with ⟨rfl,_⟩ | ⟨g,cap,cur,rfl,hb,hgb,_⟩
  ·simp [Value.ownBlock] at ej
  ·obtain rfl:g=j:=by simpa [Value.ownBlock] using ej
   exact ⟨hb,_,_,hgb⟩
 have hBel:Below w.heap.size A (w1.setCell ⟨w.heap.size,0,none⟩ v'):=by
  refine bset ((((Below.refl w.heap.size A).alloc (by omega) tmp).grown hgrow (by simp;omega) fun j ej=>?_)) (Nat.le_refl _) v'
  have:=(hown j ej).1;omega
 refine ⟨?_,⟨hBel,?_⟩,v',hv1.set v',?_,hB.trans hBel,?_⟩
 ·refine ((KeepsOthers.alloc A tmp).trans (KeepsOthers.of_grownBy hgrow fun j o ej hj=>?_)).trans (KeepsOthers.setCell _ _ _)
  obtain ⟨_,cs,fr,hgb⟩:=hown j ej
  rw [hgb] at hj;cases hj;rfl
 ·intro k cs t fr hk h1 h2
  have hlt:=(Array.getElem?_eq_some_iff.1 hk).1
  have e1:k≠w.heap.size:=by
   rintro rfl
   unfold Boxed at hv
   rw [hv] at hk
   injection hk with hk;injection hk with _ ht
   exact h1 ht.symm
  have e2:some k≠v.ownBlock:=by
   intro e
   obtain ⟨_,cs',fr',hgb⟩:=hown k e.symm
   rw [Below.heap_alloc A tmp k hlt,hk] at hgb
   injection hgb with hgb;injection hgb with _ ht
   exact h2 ht
  rw [Below.heap_setCell _ _ _ _ e1,hgrow.block k (by simp;omega) e2,Below.heap_alloc A tmp k hlt]
 ·rw [List.length_append,flat_snoc]
  exact hown'.kept (grownBy_setCell' w1 _ v') (.inr (hv1.not_row (by decide) hown').symm)
 ·exact Nat.le_trans hZ hBel.size
set_option maxRecDepth 100000 in
set_option maxHeartbeats 1000000 in
theorem Lex_any (s:ByteArray)(w:World)(hY:Syms w)(hsz:s.size≤maxLen) :
  Calls Tryz.prog 52 #[.string s] w (LexPost w w.heap.size (lexS s.data.toList)):=by
 unfold maxLen at hsz
 by_cases hlong:30000 < s.size
 ·have HR:=Lib.hid (show lexS s.data.toList=([],0,3) by unfold lexS;rw [len_data,if_pos hlong])
  refine callsIn_wide (n:=20) |>.1 ?_
  refine callsIn_of_wp_marks Tryz.func52 rfl trivial ?_ rfl
  simp only [Tryz.ntmps52,List.size_toArray,List.length_cons,List.length_nil,Nat.reduceAdd,Nat.reduceSub,Array.replicate_succ,Array.replicate_zero,List.push_toArray,List.append_toArray,List.nil_append,List.cons_append]
  gi_wp2
  exact ⟨_,res14 rfl rfl rfl (Boxed.new w 69 (.slice none 0 0)),LexPost.mk' HR.out (World.ownsRow_nil _ _ _ _) ((Below.refl _ _).alloc (Nat.le_refl _) _)⟩
 ·obtain ⟨xs,fin,hx⟩:∃ xs fin,lexF (s.size+1) 0 s.data.toList=(xs,fin):=⟨_,_,rfl⟩
  refine callsIn_wide (n:=20) |>.1 ?_
  refine callsIn_of_wp_marks Tryz.func52 rfl trivial ?_ rfl
  simp only [Tryz.ntmps52,List.size_toArray,List.length_cons,List.length_nil,Nat.reduceAdd,Nat.reduceSub,Array.replicate_succ,Array.replicate_zero,List.push_toArray,List.append_toArray,List.nil_append,List.cons_append]
  have HY:=Lib.hid hY
  have HX:=Lib.hid hx
  clear hY hx
  gi_wp2
  obtain ⟨i0,hi,hz0,hz1,hz2⟩:=info_parts info43
  have hB2:Below w.heap.size w ((w.alloc (.cells #[.slice none 0 0] 69)).alloc (.cells #[.string s,.int .i64 0,.int .i64 0] 115)):=((Below.refl _ w).alloc (Nat.le_refl _) _).alloc (by simp) _
  have hS:Src ((w.alloc (.cells #[.slice none 0 0] 69)).alloc (.cells #[.string s,.int .i64 0,.int .i64 0] 115)) (w.heap.size+1) s 0 0:=by
   have:=heap_alloc_new (w.alloc (.cells #[.slice none 0 0] 69)) (.cells #[.string s,.int .i64 0,.int .i64 0] 115)
   rwa [World.size_alloc] at this
  have hlen:xs.length≤30001:=by
   have:=lexF_len (s.size+1) 0 s.data.toList
   rw [HX.out] at this
   have h2:xs.length≤s.size+1:=this
   omega
  refine lex_range (n:=20) (by omega) (w.heap.size+1) w.heap.size s xs fin 0 rfl hS (HY.out.below hB2 HY.out.pos) (by have:=HY.out.pos;omega) HY.out.pos (by simp;omega) (by omega) HX.out (LexInv w) ?hI ?hIp ?h0
   (fun x c=>{ tmps:=#[.string s,undef,.pointer (some ⟨w.heap.size,0,none⟩),.int .i64 0,.int .i64 0,.pointer (some ⟨w.heap.size+1,0,none⟩),.pointer (some ⟨c,0,none⟩),.string s,.int .i64 (s.size:Int),.bool (decide (30000 < (s.size:Int))),.string s,.agg #[.string s,.int .i64 0],.agg #[.string s,.int .i64 0,.int .i64 0],.func (.func 82) #[.pointer (some ⟨w.heap.size+1,0,none⟩)] #[],tkArg x,undef,undef,undef,undef,undef,undef,undef,undef,undef,undef,undef,undef],defers:=[] }) ?assign ?body ?done
  case hI =>
   rintro pre A B ⟨v,hv,hrow,hB,hZ⟩ hg
   refine ⟨v,hv.kept hg (by simp),hrow.kept hg ?_,hB.grown hg hB.size (fun k e=>by cases e;omega),Nat.le_trans hZ hg.size⟩
   rcases hrow.2 with ⟨rfl,_⟩ | ⟨g,cap,cur,rfl,hb,_⟩
   ·exact .inl rfl
   ·refine .inr fun e=>?_
    have:g=w.heap.size+1:=by simpa [Value.ownBlock] using e
    omega
  case hIp =>
   rintro pre A l o o' ⟨v,hv,hrow,hB,hZ⟩ hl ho hle
   refine ⟨v,hv.kept (grownBy_putObj' A l o') (by simp at hle ⊢;omega),ownsRow_putObj hrow _ hl ho,hB.grown (grownBy_putObj' A l o') hB.size (fun k e=>by cases e;simp at hle;omega),by rw [World.putObj_size];exact hZ⟩
  case h0=>exact ⟨_,(Boxed.new w 69 _).alloc _,World.ownsRow_nil _ _ _ _,hB2,by simp⟩
  case assign =>
   intro l x A K hK
   simp only [tkArg,tkCells] at hK ⊢
   gi_wp2
   exact hK
  case body =>
   rintro l pre x A c ⟨v,hv,hrow,hB,hZ⟩ hc _ hpre
   have c0:A.cell? ⟨c,0,none⟩=some (.int .i64 x.kind):=cell_of_row A c 0 _ 74 (0,0) hc
   have c1:A.cell? ⟨c,1,none⟩=some (.string (strB x.s)):=cell_of_row A c 1 _ 74 (0,0) hc
   have c2:A.cell? ⟨c,2,none⟩=some (.int .i64 x.n):=cell_of_row A c 2 _ 74 (0,0) hc
   have c3:A.cell? ⟨c,3,none⟩=some (.int .i64 (x.pos:Int)):=cell_of_row A c 3 _ 74 (0,0) hc
   have hb0:=hv.cell
   have hpl:pre.length+1≤30001:=by
    have:=hpre.length_le
    simp only [List.length_append,List.length_cons,List.length_nil] at this
    omega
   have HV:=Lib.hid hv
   have HRow:=Lib.hid hrow
   have HB:=Lib.hid hB
   have HSZ:=Lib.hid hZ
   clear hv hrow hB hZ hc hpre
   simp only [tkArg]
   gi_wp2_with (gi_at_builtin;refine wpListIn_append_own _ rfl _ _ 69 rfl (w.heap.size+2) 74 i0 (.agg #[.int .i64 0,.string ⟨#[]⟩,.int .i64 0,.int .i64 0]) 4 40 Tryz.underlying69 hi hz0 hz1 hz2 rfl (by decide) _ _ _ rfl (HRow.out.alloc _) ⟨A.heap.size,0,none⟩ 1 1 (tkCells x) rfl rfl (cell_toks A x 74) (tk_one x) (by unfold maxLen;omega) (by omega) (by have:=HSZ.out;simp;omega) ?_;intro v' w1 hown' hgrow _;obtain ⟨g',cap',rfl⟩:=ownsRow_succ hown';have HV1:=Lib.hid ((HV.out.alloc _).kept hgrow (HV.out.not_row (by decide) HRow.out));have hb1:=HV1.out.cell;have hf1:=HV1.out.frozen;have HO:=Lib.hid hown';have HGr:=Lib.hid hgrow;clear hown' hgrow)
   exact round_end HV.out HRow.out HB.out HSZ.out HV1.out HO.out HGr.out
  case done =>
   rintro D A hD ⟨v,hv,hrow,hB,hZ⟩ hsrc hK
   have hb0:=hv.cell
   have hf0:=hv.frozen
   have hc2:=hsrc.c2
   have hDN:D≠w.heap.size:=by simp at hD;omega
   have HV:=Lib.hid hv
   have HRow:=Lib.hid hrow
   have HB:=Lib.hid hB
   have HK:=Lib.hid hK
   have HD:Hid (w.heap.size≤D):=by simp at hD;exact Nat.le_trans (by omega) hD
   have HDN:=Lib.hid hDN
   clear hv hrow hB hK hsrc hDN hD
   have hput:∀ (B:World) (o:Obj),Below w.heap.size w B→B.heap[D]?=some (Obj.deferred (some []))→Below w.heap.size w (B.putObj D o):=fun B o hb hd =>
    hb.grown (grownBy_putObj' B D o) hb.size (fun k e=>by cases e;exact HD.out)
   have HP:=Lib.hid hput
   clear hput
   by_cases hfin:fin < s.size
   ·have HR:=Lib.hid (show lexS s.data.toList=([],(fin:Int),2) by unfold lexS;rw [len_data,if_neg hlong,HX.out,if_pos hfin])
    gi_wp2
    gi_region
    gi_wp2
    have hd2:((A.setCell ⟨w.heap.size,0,none⟩ (.slice none 0 0)).drew).heap[D]?=some (Obj.deferred (some [])):=(Below.heap_setCell A ⟨w.heap.size,0,none⟩ _ D HDN.out).trans HK.out
    refine ⟨by simp,.inl ⟨_,_,rfl,run_takeDeferred hd2,?_⟩⟩
    have hbx:Boxed (((A.setCell ⟨w.heap.size,0,none⟩ (.slice none 0 0)).drew).putObj D (.deferred none)) w.heap.size 69 (.slice none 0 0):=(World.putObj_heap_other (Ne.symm HDN.out)).trans (HV.out.set _)
    exact ⟨_,res14 rfl rfl rfl hbx,LexPost.mk' HR.out (World.ownsRow_nil _ _ _ _) (HP.out _ _ ((bset HB.out (Nat.le_refl _) (o:=0) (.slice none 0 0)).grown (grown_drew _ none) (by have:=HB.out.size;simpa [World.setCell] using this) (fun k e=>by cases e)) hd2)⟩
   ·have HR:=Lib.hid (show lexS s.data.toList=(xs,0,0) by unfold lexS;rw [len_data,if_neg hlong,HX.out,if_neg hfin])
    obtain ⟨a,n,c,rfl⟩:∃ a n c,v=.slice a n c:=by
     rcases HRow.out.2 with ⟨rfl,_⟩ | ⟨g,cap,cur,rfl,_⟩
     ·exact ⟨_,_,_,rfl⟩
     ·exact ⟨_,_,_,rfl⟩
    gi_wp2
    have hd2:(A.setCell ⟨w.heap.size,0,none⟩ (.slice a n c)).heap[D]?=some (Obj.deferred (some [])):=(Below.heap_setCell A ⟨w.heap.size,0,none⟩ _ D HDN.out).trans HK.out
    refine ⟨by simp,.inl ⟨_,_,rfl,run_takeDeferred hd2,?_⟩⟩
    have hbx:Boxed ((A.setCell ⟨w.heap.size,0,none⟩ (.slice a n c)).putObj D (.deferred none)) w.heap.size 69 (.slice a n c):=(World.putObj_heap_other (Ne.symm HDN.out)).trans (HV.out.set _)
    have hr2:=HRow.out.kept (grownBy_setCell' A w.heap.size (.slice a n c)) (.inr (HV.out.not_row (by decide) HRow.out).symm)
    exact ⟨_,res14 rfl rfl rfl hbx,LexPost.mk' HR.out (owns_weaken (ownsRow_putObj hr2 _ hd2 rfl) (by omega)) (HP.out _ _ (bset HB.out (Nat.le_refl _) _) hd2)⟩
end Go.Proofs.YtpjabnemkmdobaaGreatDoor
namespace Go.Proofs.YtpjabnemkmdobaaGreatDoor
open Go.RowKit
structure Rt where
 k:Int
 s:List UInt8
 n:Int
 p:Int
def Rt.cells (t:Rt):List Value:=[.int .i64 t.k,.string (strB t.s),.int .i64 t.n,.int .i64 t.p]
structure PS (w:World) (b g go c:Nat) (ts:List Rt) (nx dp:Nat):Prop where
 blk:w.heap[b]?=some (.cells #[.slice (some ⟨g,go,none⟩) ts.length c,.int .i64 nx,.int .i64 dp,.bool false] 79 (0,0))
 ne:g≠b
 lt:g < w.heap.size
 tok:∀ (j:Nat) (t:Rt),ts[j]?=some t→CellsAt w g (go+j*4) t.cells
section
variable {w w':World} {b g go c:Nat} {ts:List Rt} {nx dp:Nat}
theorem PS.blt (h:PS w b g go c ts nx dp):b < w.heap.size:=(Array.getElem?_eq_some_iff.1 h.blk).1
theorem PS.c0 (h:PS w b g go c ts nx dp):w.cell? ⟨b,0,none⟩=some (.slice (some ⟨g,go,none⟩) ts.length c):=cell_of_row w b 0 _ _ (0,0) h.blk
theorem PS.c1 (h:PS w b g go c ts nx dp):w.cell? ⟨b,1,none⟩=some (.int .i64 nx):=cell_of_row w b 1 _ _ (0,0) h.blk
theorem PS.c2 (h:PS w b g go c ts nx dp):w.cell? ⟨b,2,none⟩=some (.int .i64 dp):=cell_of_row w b 2 _ _ (0,0) h.blk
theorem PS.fr (h:PS w b g go c ts nx dp)(i:Nat):w.frozen? ⟨b,i,none⟩=false:=by
 have:=h.blk;simp [World.frozen?,this]
theorem cell_grown {row:Option Nat}(hg:w.grownBy w' row){x o:Nat}(hx:x < w.heap.size)(hr:some x≠row):w'.cell? ⟨x,o,none⟩=w.cell? ⟨x,o,none⟩:=by
 unfold World.cell?;simp only [hg.block x hx hr]
theorem PS.kept (h:PS w b g go c ts nx dp){row:Option Nat}(hg:w.grownBy w' row)(h1:some b≠row)(h2:some g≠row):PS w' b g go c ts nx dp :=
 ⟨(hg.block b h.blt h1).trans h.blk,h.ne,Nat.lt_of_lt_of_le h.lt hg.size,fun j t hj i v hi=>(cell_grown hg h.lt h2).trans (h.tok j t hj i v hi)⟩
theorem PS.below (h:PS w b g go c ts nx dp)(hb:Below w.heap.size w w'):PS w' b g go c ts nx dp:=h.kept (grown_below hb none) (by simp) (by simp)
theorem PS.drewN (h:PS w b g go c ts nx dp)(n:Nat):PS (w.drewN n) b g go c ts nx dp:=h.kept (grown_drewN w n none) (by simp) (by simp)
theorem PS.set1 (h:PS w b g go c ts nx dp)(m:Nat):PS (w.setCell ⟨b,1,none⟩ (.int .i64 m)) b g go c ts m dp:=by
 refine ⟨?_,h.ne,by simp [World.setCell];exact h.lt,fun j t hj i v hi=>?_⟩
 ·have:=h.blk;simp [World.setCell,Array.getElem?_modify,this]
 ·exact (cell_grown (grown_set w ⟨b,1,none⟩ _) h.lt (by simp [h.ne])).trans (h.tok j t hj i v hi)
theorem PS.set2 (h:PS w b g go c ts nx dp)(m:Nat):PS (w.setCell ⟨b,2,none⟩ (.int .i64 m)) b g go c ts nx m:=by
 refine ⟨?_,h.ne,by simp [World.setCell];exact h.lt,fun j t hj i v hi=>?_⟩
 ·have:=h.blk;simp [World.setCell,Array.getElem?_modify,this]
 ·exact (cell_grown (grown_set w ⟨b,2,none⟩ _) h.lt (by simp [h.ne])).trans (h.tok j t hj i v hi)
end
def Went (w w':World)(b g go c:Nat)(ts:List Rt)(nx dp:Nat):Prop:=PS w' b g go c ts nx dp∧w.grownBy w' (some b)
set_option maxRecDepth 100000 in
set_option maxHeartbeats 400000 in
theorem peek_any (b g go c:Nat)(ts:List Rt)(nx dp:Nat)(t:Rt)(w:World)(h:PS w b g go c ts nx dp)(ht:ts[nx]?=some t) :
  Calls Tryz.prog 56 #[.pointer (some ⟨b,0,none⟩)] w fun e w'=>e=.returned (.agg #[.int .i64 t.k,.string (strB t.s),.int .i64 t.n,.int .i64 t.p])∧Below w.heap.size w w':=by
 have c0:=h.c0
 have c1:=h.c1
 have hn:=(List.getElem?_eq_some_iff.1 ht).1
 have hg:=h.lt
 have d0:=h.tok nx t ht 0 _ rfl
 have d1:=h.tok nx t ht 1 _ rfl
 have d2:=h.tok nx t ht 2 _ rfl
 have d3:=h.tok nx t ht 3 _ rfl
 rw [Nat.add_zero] at d0
 have i0:(0:Int)≤(nx:Int):=by omega
 have i1:(nx:Int) < (ts.length:Int):=by omega
 have hb:=h.blt
 have HZ:Hid (Below w.heap.size w w):=Below.refl _ _
 clear ht h hn
 obtain ⟨tk,tss,tn,tp⟩:=t
 obtain ⟨S,hS⟩:∃ S,S=strB tss:=⟨_,rfl⟩
 simp only at d0 d1 d2 d3 ⊢
 rw [← hS] at d1 ⊢
 clear hS
 go_enter Tryz.func56,Tryz.ntmps56
 go_wp2
 go_region
 go_wp2
 exact bodyPost_ret (v:=.agg #[.int .i64 tk,.string S,.int .i64 tn,.int .i64 tp]) (by simp [results,Tryz.results56,go_sem]) rfl ⟨rfl,((Below.refl _ _).alloc (Nat.le_refl _) _).drew⟩
def failV:Value:=.iface 30 (.int .i64 2)
def failE:Ending:=.panicked [{ v:=failV,recovered:=false }]
set_option maxHeartbeats 400000 in
theorem fail_any (v:Value)(w:World):Calls Tryz.prog 85 #[v] w fun e w'=>e=failE∧w=w':=by
 go_enter Tryz.func85,Tryz.ntmps85
 go_wp2
 exact ⟨rfl,rfl,rfl⟩
theorem tfield0 (x0 x1 x2 x3:Value)(w:World):(Instr.field 74 (.agg #[x0,x1,x2,x3]) 0).run Tryz.prog w=.ok x0 w:=by kernel_rfl
theorem tfield1 (x0 x1 x2 x3:Value)(w:World):(Instr.field 74 (.agg #[x0,x1,x2,x3]) 1).run Tryz.prog w=.ok x1 w:=by kernel_rfl
theorem tfield2 (x0 x1 x2 x3:Value)(w:World):(Instr.field 74 (.agg #[x0,x1,x2,x3]) 2).run Tryz.prog w=.ok x2 w:=by kernel_rfl
theorem tfield3 (x0 x1 x2 x3:Value)(w:World):(Instr.field 74 (.agg #[x0,x1,x2,x3]) 3).run Tryz.prog w=.ok x3 w:=by kernel_rfl
theorem strB_beq (a:List UInt8)(s:ByteArray):((strB a).toList == s.toList)=(a == s.data.toList):=by rw [ByteArray.toList_eq,ByteArray.toList_eq,data_strB]
set_option maxRecDepth 100000 in
set_option maxHeartbeats 400000 in
theorem skip_no (b g go c:Nat)(ts:List Rt)(nx dp:Nat)(t:Rt)(s:ByteArray)(w:World)(h:PS w b g go c ts nx dp)(ht:ts[nx]?=some t)(hs:t.s≠s.data.toList) :
  Calls Tryz.prog 114 #[.pointer (some ⟨b,0,none⟩),.string s] w fun e w'=>e=.returned (.bool false)∧Below w.heap.size w w':=by
 have HP:=Lib.hid (peek_any b g go c ts nx dp t w h ht)
 have hb:(!(((strB t.s).toList == s.toList)))=true:=by rw [strB_beq];simpa using hs
 have hb2:((strB t.s).toList == s.toList)=false:=by rw [strB_beq];simpa using hs
 clear h ht hs
 obtain ⟨tk,tss,tn,tp⟩:=t
 obtain ⟨S,hS⟩:∃ S,S=strB tss:=⟨_,rfl⟩
 simp only at HP hb hb2
 rw [← hS] at HP hb hb2
 clear hS
 have fl1:=tfield1
 go_enter Tryz.func114,Tryz.ntmps114
 go_wp2_with (go_at_call 56;refine (HP.out).mono ?_;rintro e w' ⟨rfl,hb⟩;have HB:=Lib.hid hb;clear hb)
 go_ret
 exact ⟨rfl,HB.out⟩
set_option maxRecDepth 100000 in
set_option maxHeartbeats 400000 in
theorem skip_yes (b g go c:Nat)(ts:List Rt)(nx dp:Nat)(t:Rt)(s:ByteArray)(w:World)(h:PS w b g go c ts nx dp)(ht:ts[nx]?=some t)(hs:t.s=s.data.toList)(hlen:ts.length≤100000) :
  Calls Tryz.prog 114 #[.pointer (some ⟨b,0,none⟩),.string s] w fun e w'=>e=.returned (.bool true)∧Went w w' b g go c ts (nx+1) dp:=by
 have HP:=Lib.hid (peek_any b g go c ts nx dp t w h ht)
 have H:=Lib.hid h
 have hn:=(List.getElem?_eq_some_iff.1 ht).1
 have hb2:((strB t.s).toList == s.toList)=true:=by rw [strB_beq];simpa using hs
 have hbl:=h.blt
 clear h ht hs
 obtain ⟨tk,tss,tn,tp⟩:=t
 obtain ⟨S,hS⟩:∃ S,S=strB tss:=⟨_,rfl⟩
 simp only at HP hb2
 rw [← hS] at HP hb2
 clear hS
 have fl1:=tfield1
 go_enter Tryz.func114,Tryz.ntmps114
 go_wp2_with (go_at_call 56;refine (HP.out).mono ?_;rintro e w' ⟨rfl,hb⟩;have HB:=Lib.hid hb;have HQ:=Lib.hid (H.out.below hb);have c1:=HQ.out.c1;have f1:=HQ.out.fr 1;clear hb)
 go_ret
 refine ⟨rfl,?_,grown_trans (grown_below HB.out _) (grown_set _ ⟨b,1,none⟩ _)⟩
 have:=HQ.out.set1 (nx+1)
 rw [Int.natCast_add] at this
 exact this
theorem grown_new {w W:World}{row:Option Nat}(h:w.grownBy W row){x o:Nat}(hp:w.heap.size≤x)(v:Value):w.grownBy (W.setCell ⟨x,o,none⟩ v) row :=
 ⟨h.os,h.tape,h.output,by simp [World.setCell];exact h.size,fun k hk hr=>(Below.heap_setCell W ⟨x,o,none⟩ v k (fun e=>by simp only at e;omega)).trans (h.block k hk hr)⟩
theorem grown_all {w W:World}{row:Option Nat}(h:w.grownBy W row){x:Nat}(hp:w.heap.size≤x)(v0 v1 v2 v3:Value):w.grownBy ((((W.setCell ⟨x,0,none⟩ v0).setCell ⟨x,1,none⟩ v1).setCell ⟨x,2,none⟩ v2).setCell ⟨x,3,none⟩ v3) row :=
 grown_new (grown_new (grown_new (grown_new h hp _) hp _) hp _) hp _
theorem size_set (W:World)(p:Addr)(v:Value):(W.setCell p v).heap.size=W.heap.size:=by simp [World.setCell]
section
variable {w:World} {b g go c:Nat} {ts:List Rt} {nx dp:Nat}
theorem PS.other (h:PS w b g go c ts nx dp){x o:Nat}(h1:b≠x)(h2:g≠x)(v:Value):PS (w.setCell ⟨x,o,none⟩ v) b g go c ts nx dp:=h.kept (grown_set w ⟨x,o,none⟩ v) (by simpa using h1) (by simpa using h2)
theorem PS.all (h:PS w b g go c ts nx dp){x:Nat}(h1:b≠x)(h2:g≠x)(v0 v1 v2 v3:Value):PS ((((w.setCell ⟨x,0,none⟩ v0).setCell ⟨x,1,none⟩ v1).setCell ⟨x,2,none⟩ v2).setCell ⟨x,3,none⟩ v3) b g go c ts nx dp :=
 (((h.other h1 h2 v0).other h1 h2 v1).other h1 h2 v2).other h1 h2 v3
end
theorem resToken {tmps:Array Value}{w:World}{g:Nat}{k n pos:Int}{s:ByteArray}(h2:tmps.getD 4 undef=.pointer (some ⟨g,0,none⟩))(h:TB w g k s n pos) :
  (results Tryz.f84 tmps).run Tryz.prog w=.ok (.agg #[.int .i64 k,.string s,.int .i64 n,.int .i64 pos]) w:=by
 have c0:=h.c0
 have c1:=h.c1
 have c2:=h.c2
 have c3:=h.c3
 have h2':tmps[4]?.getD undef=.pointer (some ⟨g,0,none⟩):=by simpa using h2
 simp [results,Tryz.results84,go_sem,h2',c0,c1,c2,c3]
set_option maxRecDepth 100000 in
set_option maxHeartbeats 1000000 in
theorem token_ok (b g go c:Nat)(ts:List Rt)(nx dp:Nat)(t:Rt)(w:World)(h:PS w b g go c ts nx dp)(ht:ts[nx]?=some t)(hlen:ts.length≤100000) :
  Calls Tryz.prog 84 #[.pointer (some ⟨b,0,none⟩),.int .i64 t.k] w fun e w'=>e=.returned (.agg #[.int .i64 t.k,.string (strB t.s),.int .i64 t.n,.int .i64 t.p])∧Went w w' b g go c ts (nx+1) dp:=by
 have HP:=Lib.hid (fun w h=>peek_any b g go c ts nx dp t w h ht)
 have H:=Lib.hid h
 have hn:=(List.getElem?_eq_some_iff.1 ht).1
 have hbl:=h.blt
 have hgl:=h.lt
 obtain ⟨tk,tss,tn,tp⟩:=t
 obtain ⟨S,hS⟩:∃ S,S=strB tss:=⟨_,rfl⟩
 simp only at HP ⊢
 rw [← hS] at HP ⊢
 have HT0:=Lib.hid (TB.new w 0 ⟨#[]⟩ 0 0)
 have H0:Hid (PS (w.alloc (.cells #[.int .i64 0,.string ⟨#[]⟩,.int .i64 0,.int .i64 0] 74)) b g go c ts nx dp):=h.below ((Below.refl _ _).alloc (Nat.le_refl _) _)
 have hne:(tk != tk)=false:=by simp
 have q1:¬ w.heap.size=b:=by omega
 have q2:¬ b=w.heap.size:=by omega
 clear hS h ht
 go_enter Tryz.func84,Tryz.ntmps84
 go_wp2_with (go_at_call 56;refine (HP.out _ H0.out).mono ?_;rintro e w1 ⟨rfl,hb⟩;have HB:=Lib.hid hb;have HT1:=Lib.hid (HT0.out.below hb);have HQ0:=Lib.hid (H0.out.below hb);have HQ:=Lib.hid ((H0.out.below hb).below ((Below.refl _ _).alloc (Nat.le_refl _) (.cells #[.int .i64 tk,.string S,.int .i64 tn,.int .i64 tp] 74)));have c1:=HQ.out.c1;have f1:=HQ.out.fr 1;have e0:=HT1.out.c0;have e1:=HT1.out.c1;have e2:=HT1.out.c2;have e3:=HT1.out.c3;have r0:=HT1.out.fr 0;have r1:=HT1.out.fr 1;have r2:=HT1.out.fr 2;have r3:=HT1.out.fr 3;have hz1:w.heap.size < w1.heap.size:=(by have:=hb.size;simp at this;omega);have hz2:b < w1.heap.size:=(by omega);clear hb)
 have HQ1:=Lib.hid (HQ0.out.set1 (nx+1))
 have HG1:Hid (w.grownBy (w1.setCell ⟨b,1,none⟩ (.int .i64 ((nx:Int)+1))) (some b)) :=
  grown_trans (grown_trans (World.grownBy_alloc w _ _) (grown_below HB.out _)) (grown_set _ ⟨b,1,none⟩ _)
 have HT2:Hid (TB (w1.setCell ⟨b,1,none⟩ (.int .i64 ((nx:Int)+1))) w.heap.size 0 ⟨#[]⟩ 0 0):=HT1.out.kept (grown_set _ ⟨b,1,none⟩ _) (by simp;omega)
 rw [Int.natCast_add] at HQ1
 exact bodyPost_ret (resToken rfl ((HT2.out.all tk S tn tp).kept (World.grownBy_alloc _ _ none) (by simp))) rfl ⟨rfl,(HQ1.out.all (by omega) (by omega) _ _ _ _).below ((Below.refl _ _).alloc (Nat.le_refl _) _),grown_trans (grown_all HG1.out (Nat.le_refl _) _ _ _ _) (World.grownBy_alloc _ _ _)⟩
end Go.Proofs.YtpjabnemkmdobaaGreatDoor
namespace Go.Proofs.YtpjabnemkmdobaaGreatDoor
open Go.RowKit
def EB (w:World)(g:Nat)(v0 v1 v2 v3 v4 v5 v6:Value):Prop:=w.heap[g]?=some (.cells #[v0,v1,v2,v3,v4,v5,v6] 27 (0,0))
section
variable {w w':World} {g:Nat} {v0 v1 v2 v3 v4 v5 v6:Value}
theorem EB.lt (h:EB w g v0 v1 v2 v3 v4 v5 v6):g < w.heap.size:=(Array.getElem?_eq_some_iff.1 h).1
theorem EB.c0 (h:EB w g v0 v1 v2 v3 v4 v5 v6):w.cell? ⟨g,0,none⟩=some v0:=cell_of_row w g 0 _ _ (0,0) h
theorem EB.c1 (h:EB w g v0 v1 v2 v3 v4 v5 v6):w.cell? ⟨g,1,none⟩=some v1:=cell_of_row w g 1 _ _ (0,0) h
theorem EB.c2 (h:EB w g v0 v1 v2 v3 v4 v5 v6):w.cell? ⟨g,2,none⟩=some v2:=cell_of_row w g 2 _ _ (0,0) h
theorem EB.c3 (h:EB w g v0 v1 v2 v3 v4 v5 v6):w.cell? ⟨g,3,none⟩=some v3:=cell_of_row w g 3 _ _ (0,0) h
theorem EB.c4 (h:EB w g v0 v1 v2 v3 v4 v5 v6):w.cell? ⟨g,4,none⟩=some v4:=cell_of_row w g 4 _ _ (0,0) h
theorem EB.c5 (h:EB w g v0 v1 v2 v3 v4 v5 v6):w.cell? ⟨g,5,none⟩=some v5:=cell_of_row w g 5 _ _ (0,0) h
theorem EB.c6 (h:EB w g v0 v1 v2 v3 v4 v5 v6):w.cell? ⟨g,6,none⟩=some v6:=cell_of_row w g 6 _ _ (0,0) h
theorem EB.fr (h:EB w g v0 v1 v2 v3 v4 v5 v6)(i:Nat):w.frozen? ⟨g,i,none⟩=false:=by
 unfold EB at h;simp [World.frozen?,h]
theorem EB.new (w:World)(v0 v1 v2 v3 v4 v5 v6:Value):EB (w.alloc (.cells #[v0,v1,v2,v3,v4,v5,v6] 27)) w.heap.size v0 v1 v2 v3 v4 v5 v6:=heap_alloc_new w _
theorem EB.kept (h:EB w g v0 v1 v2 v3 v4 v5 v6){row:Option Nat}(hg:w.grownBy w' row)(hne:some g≠row):EB w' g v0 v1 v2 v3 v4 v5 v6:=(hg.block g h.lt hne).trans h
def set7 (w:World)(g:Nat)(v0 v1 v2 v3 v4 v5 v6:Value):World:=((((((w.setCell ⟨g,0,none⟩ v0).setCell ⟨g,1,none⟩ v1).setCell ⟨g,2,none⟩ v2).setCell ⟨g,3,none⟩ v3).setCell ⟨g,4,none⟩ v4).setCell ⟨g,5,none⟩ v5).setCell ⟨g,6,none⟩ v6
theorem EB.all (h:EB w g v0 v1 v2 v3 v4 v5 v6)(u0 u1 u2 u3 u4 u5 u6:Value):EB (set7 w g u0 u1 u2 u3 u4 u5 u6) g u0 u1 u2 u3 u4 u5 u6:=by
 unfold EB at h ⊢;unfold set7;simp [World.setCell,Array.getElem?_modify,h]
theorem set7_grown (w:World)(g:Nat)(v0 v1 v2 v3 v4 v5 v6:Value):w.grownBy (set7 w g v0 v1 v2 v3 v4 v5 v6) (some g) :=
 grown_trans (grown_trans (grown_trans (grown_trans (grown_trans (grown_trans (grown_set w ⟨g,0,none⟩ v0) (grown_set _ ⟨g,1,none⟩ v1)) (grown_set _ ⟨g,2,none⟩ v2)) (grown_set _ ⟨g,3,none⟩ v3)) (grown_set _ ⟨g,4,none⟩ v4)) (grown_set _ ⟨g,5,none⟩ v5)) (grown_set _ ⟨g,6,none⟩ v6)
end
theorem grown_7 {w W:World}{row:Option Nat}(h:w.grownBy W row){x:Nat}(hp:w.heap.size≤x)(v0 v1 v2 v3 v4 v5 v6:Value):w.grownBy (set7 W x v0 v1 v2 v3 v4 v5 v6) row :=
 grown_new (grown_new (grown_new (grown_new (grown_new (grown_new (grown_new h hp _) hp _) hp _) hp _) hp _) hp _) hp _
theorem Same.of_grown {P:Nat→Prop}{w w':World}{row:Option Nat}(h:w.grownBy w' row)(hp:∀ b,P b→some b≠row):Same P w w':=⟨h.size,fun b hb hlt=>h.block b hlt (hp b hb)⟩
def BoxP (w:World)(x b:Nat):Prop:=w.heap[x]?=some (.cells #[.pointer (some ⟨b,0,none⟩)] 54 (0,0))
theorem BoxP.lt {w:World}{x b:Nat}(h:BoxP w x b):x < w.heap.size:=(Array.getElem?_eq_some_iff.1 h).1
theorem BoxP.c {w:World}{x b:Nat}(h:BoxP w x b):w.cell? ⟨x,0,none⟩=some (.pointer (some ⟨b,0,none⟩)):=cell_of_row w x 0 _ _ (0,0) h
theorem BoxP.kept {w w':World}{x b:Nat}(h:BoxP w x b){row:Option Nat}(hg:w.grownBy w' row)(hne:some x≠row):BoxP w' x b:=(hg.block x h.lt hne).trans h
theorem BoxP.ne {w:World}{x b g go c:Nat}{ts:List Rt}{nx dp:Nat}(h:BoxP w x b)(hp:PS w b g go c ts nx dp):x≠b:=by
 rintro rfl
 have h1:=hp.blk
 unfold BoxP at h
 rw [h] at h1
 injection h1 with h1;injection h1 with _ h1;cases h1
def ExprTo (w:World)(b g go c:Nat)(ts:List Rt)(nx dp:Nat)(ex:Ex)(e:Ending)(w':World):Prop :=
 ∃ (k n:Int) (s t:ByteArray) (A0:Option Addr) (n0 c0:Nat) (A1:Option Addr) (n1 c1:Nat) (A2:Option Addr) (n2 c2:Nat),e=.returned (.agg #[.int .i64 k,.int .i64 n,.string s,.string t,.slice A0 n0 c0,.slice A1 n1 c1,.slice A2 n2 c2]) ∧
  RepE (fun x=>w.heap.size≤x) w' ex [.int .i64 k,.int .i64 n,.string s,.string t,.slice A0 n0 c0,.slice A1 n1 c1,.slice A2 n2 c2]∧Went w w' b g go c ts nx dp
def FailTo (w:World)(b g go c:Nat)(ts:List Rt)(nx:Nat)(e:Ending)(w':World):Prop:=e=failE∧∃ dp,Went w w' b g go c ts nx dp
theorem resNested {tmps:Array Value}{w:World}{g:Nat}{v0 v1 v2 v3 v4 v5 v6:Value}(h2:tmps.getD 4 undef=.pointer (some ⟨g,0,none⟩))(h:EB w g v0 v1 v2 v3 v4 v5 v6) :
  (results Tryz.f54 tmps).run Tryz.prog w=.ok (.agg #[v0,v1,v2,v3,v4,v5,v6]) w:=by
 have c0:=h.c0
 have c1:=h.c1
 have c2:=h.c2
 have c3:=h.c3
 have c4:=h.c4
 have c5:=h.c5
 have c6:=h.c6
 have h2':tmps[4]?.getD undef=.pointer (some ⟨g,0,none⟩):=by simpa using h2
 simp [results,Tryz.results54,go_sem,h2',c0,c1,c2,c3,c4,c5,c6]
set_option maxRecDepth 100000 in
set_option maxHeartbeats 1000000 in
theorem nested_expr_fail (x b g go c:Nat)(ts:List Rt)(nx dp nx':Nat)(w:World)(h:PS w b g go c ts nx dp)(hx:BoxP w x b)(hd:dp+1≤400)
  (HC:Hid (∀ w',PS w' b g go c ts nx (dp+1)→BoxP w' x b→Calls Tryz.prog 55 #[.pointer (some ⟨x,0,none⟩)] w' (FailTo w' b g go c ts nx'))) :
  Calls Tryz.prog 54 #[.pointer (some ⟨b,0,none⟩),.func (.func 55) #[] #[.pointer (some ⟨x,0,none⟩)]] w (FailTo w b g go c ts nx'):=by
 have c2:=h.c2
 have f2:=h.fr 2
 have hbl:=h.blt
 have hgl:=h.lt
 have hxb:=hx.ne h
 have H1:Hid (PS (w.setCell ⟨b,2,none⟩ (.int .i64 ((dp:Int)+1))) b g go c ts nx (dp+1)):=by have:=h.set2 (dp+1);rw [Int.natCast_add] at this;exact this
 have HX1:Hid (BoxP (w.setCell ⟨b,2,none⟩ (.int .i64 ((dp:Int)+1))) x b):=hx.kept (grown_set w ⟨b,2,none⟩ _) (by simp;omega)
 have q1:¬ w.heap.size=b:=by omega
 have q2:¬ b=w.heap.size:=by omega
 have i0:(dp:Int)+1≤400:=by omega
 clear h hx
 go_enter Tryz.func54,Tryz.ntmps54
 go_wp2_with fail
 refine (HC.out _ (H1.out.below ((Below.refl _ _).alloc (Nat.le_refl _) _)) (HX1.out.kept (World.grownBy_alloc _ _ none) (by simp))).mono ?_
 rintro e w2 ⟨rfl,dp',hp,hg⟩
 exact ⟨rfl,rfl,dp',hp,grown_trans (grown_trans (grown_set w ⟨b,2,none⟩ _) (World.grownBy_alloc _ _ _)) hg⟩
theorem res_expr_any {tmps:Array Value}{w:World}{g:Nat}{v0 v1 v2 v3 v4 v5 v6:Value}(h2:tmps.getD 2 undef=.pointer (some ⟨g,0,none⟩))(h:EB w g v0 v1 v2 v3 v4 v5 v6) :
  (results Tryz.f20 tmps).run Tryz.prog w=.ok (.agg #[v0,v1,v2,v3,v4,v5,v6]) w:=by
 have c0:=h.c0
 have c1:=h.c1
 have c2:=h.c2
 have c3:=h.c3
 have c4:=h.c4
 have c5:=h.c5
 have c6:=h.c6
 have h2':tmps[2]?.getD undef=.pointer (some ⟨g,0,none⟩):=by simpa using h2
 simp [results,Tryz.results20,go_sem,h2',c0,c1,c2,c3,c4,c5,c6]
set_option maxRecDepth 100000 in
set_option maxHeartbeats 1000000 in
theorem expr_any_fail (b g go c:Nat)(ts:List Rt)(nx dp nx':Nat)(w:World)(h:PS w b g go c ts nx dp)(hd:dp+1≤400)
  (HC:Hid (∀ x w',PS w' b g go c ts nx (dp+1)→BoxP w' x b→Calls Tryz.prog 55 #[.pointer (some ⟨x,0,none⟩)] w' (FailTo w' b g go c ts nx'))) :
  Calls Tryz.prog 20 #[.pointer (some ⟨b,0,none⟩)] w (FailTo w b g go c ts nx'):=by
 have H:=Lib.hid h
 clear h
 go_enter Tryz.func20,Tryz.ntmps20
 go_wp2_with fail
 refine (nested_expr_fail w.heap.size b g go c ts nx dp nx' _ (H.out.below (((Below.refl _ _).alloc (Nat.le_refl _) _).alloc (by simp) _)) ((show BoxP (w.alloc (.cells #[.pointer (some ⟨b,0,none⟩)] 54)) w.heap.size b from heap_alloc_new w _).kept (World.grownBy_alloc _ _ none) (by simp)) hd (HC.out _)).mono ?_
 rintro e w2 ⟨rfl,dp',hp,hg⟩
 exact ⟨rfl,rfl,dp',hp,grown_trans (grown_trans (World.grownBy_alloc _ _ _) (World.grownBy_alloc _ _ _)) hg⟩
theorem res_atom_any {tmps:Array Value}{w:World}{g:Nat}{v0 v1 v2 v3 v4 v5 v6:Value}(h2:tmps.getD 2 undef=.pointer (some ⟨g,0,none⟩))(h:EB w g v0 v1 v2 v3 v4 v5 v6) :
  (results Tryz.f118 tmps).run Tryz.prog w=.ok (.agg #[v0,v1,v2,v3,v4,v5,v6]) w:=by
 have c0:=h.c0
 have c1:=h.c1
 have c2:=h.c2
 have c3:=h.c3
 have c4:=h.c4
 have c5:=h.c5
 have c6:=h.c6
 have h2':tmps[2]?.getD undef=.pointer (some ⟨g,0,none⟩):=by simpa using h2
 simp [results,Tryz.results118,go_sem,h2',c0,c1,c2,c3,c4,c5,c6]
end Go.Proofs.YtpjabnemkmdobaaGreatDoor
namespace Go.Proofs.YtpjabnemkmdobaaGreatDoor
open Go.RowKit
def TokOk (ts:List Rt):Prop:=ts.length≤100000∧∀ (j:Nat) (t:Rt),ts[j]?=some t→okS t.s∧okN t.n
set_option maxRecDepth 100000 in
set_option maxHeartbeats 1000000 in
theorem lower_ok (b g go c:Nat)(ts:List Rt)(nx dp:Nat)(t:Rt)(w:World)(h:PS w b g go c ts nx dp)(ht:ts[nx]?=some t)(hk:t.k=0)(hlen:ts.length≤100000) :
  Calls Tryz.prog 86 #[.pointer (some ⟨b,0,none⟩)] w fun e w'=>e=.returned (.string (strB t.s))∧Went w w' b g go c ts (nx+1) dp:=by
 have HT:=Lib.hid (token_ok b g go c ts nx dp t w h ht hlen)
 obtain ⟨tk,tss,tn,tp⟩:=t
 simp only at hk HT ⊢
 subst hk
 obtain ⟨S,hS⟩:∃ S,S=strB tss:=⟨_,rfl⟩
 rw [← hS] at HT ⊢
 have fl1:=tfield1
 clear h ht hS
 go_enter Tryz.func86,Tryz.ntmps86
 go_wp2_with (go_at_call 84;refine (HT.out).mono ?_;rintro e w' ⟨rfl,hw⟩;have HW:=Lib.hid hw;clear hw)
 go_ret
 exact ⟨rfl,HW.out⟩
theorem rep_leaf {P:Nat→Prop}{w:World}{k n:Int}{s:List UInt8}(hk:okN k)(hn:okN n)(hs:okS s) :
  RepE P w (.mk k n s [] [] [] [] []) [.int .i64 k,.int .i64 n,.string (strB s),.string ⟨#[]⟩,.slice none 0 0,.slice none 0 0,.slice none 0 0] :=
 ⟨none,0,none,0,none,0,rfl,⟨hk,hn,hs,Nat.zero_le _,by simp,⟨Nat.le_refl _,Nat.zero_le _⟩,⟨Nat.le_refl _,Nat.zero_le _⟩,⟨Nat.le_refl _,Nat.zero_le _⟩⟩,fun h=>absurd rfl h,fun h=>absurd rfl h,fun h=>absurd rfl h,rfl⟩
theorem okN_small {n:Int}(h:-1000≤n∧n≤1000):okN n:=by unfold okN;omega
theorem okS_nil:okS []:=Nat.zero_le _
theorem res_atom1 {tmps:Array Value}{w:World}{g:Nat}{v0 v1 v2 v3 v4 v5 v6:Value}(h2:tmps.getD 1 undef=.pointer (some ⟨g,0,none⟩))(h:EB w g v0 v1 v2 v3 v4 v5 v6) :
  (results Tryz.f141 tmps).run Tryz.prog w=.ok (.agg #[v0,v1,v2,v3,v4,v5,v6]) w:=by
 have c0:=h.c0
 have c1:=h.c1
 have c2:=h.c2
 have c3:=h.c3
 have c4:=h.c4
 have c5:=h.c5
 have c6:=h.c6
 have h2':tmps[1]?.getD undef=.pointer (some ⟨g,0,none⟩):=by simpa using h2
 simp [results,Tryz.results141,go_sem,h2',c0,c1,c2,c3,c4,c5,c6]
def leafOf (t:Rt):Ex:=if t.k=3 then .mk 1 t.n [] [] [] [] [] [] else .mk 0 0 t.s [] [] [] [] []
set_option maxRecDepth 100000 in
set_option maxHeartbeats 1000000 in
theorem atom1_var (x b g go c:Nat)(ts:List Rt)(nx dp:Nat)(t:Rt)(w:World)(h:PS w b g go c ts nx dp)(hx:BoxP w x b)(ht:ts[nx]?=some t)(hk:t.k=0)(hok:TokOk ts) :
  Calls Tryz.prog 141 #[.pointer (some ⟨x,0,none⟩)] w (ExprTo w b g go c ts (nx+1) dp (leafOf t)):=by
 have hbl:=h.blt
 have hgl:=h.lt
 have hxl:=hx.lt
 have cx:=hx.c
 have hleaf:leafOf t=.mk 0 0 t.s [] [] [] [] []:=by unfold leafOf;rw [if_neg (by omega)]
 have HS:Hid (∀ (P:Nat→Prop) w',RepE P w' (leafOf t) [.int .i64 0,.int .i64 0,.string (strB t.s),.string ⟨#[]⟩,.slice none 0 0,.slice none 0 0,.slice none 0 0]):=fun P w'=>by
  rw [hleaf];exact rep_leaf (okN_small (by omega)) (okN_small (by omega)) (hok.2 _ _ ht).1
 obtain ⟨lf,hlf⟩:∃ lf,lf=leafOf t:=⟨_,rfl⟩
 rw [← hlf] at HS ⊢
 have HP:=Lib.hid (fun w h=>peek_any b g go c ts nx dp t w h ht)
 have HL:=Lib.hid (fun w h=>lower_ok b g go c ts nx dp t w h ht hk hok.1)
 have H0:Hid (PS (w.alloc (.cells #[.int .i64 0,.int .i64 0,.string ⟨#[]⟩,.string ⟨#[]⟩,.slice none 0 0,.slice none 0 0,.slice none 0 0] 27)) b g go c ts nx dp):=h.below ((Below.refl _ _).alloc (Nat.le_refl _) _)
 have HE0:=Lib.hid (EB.new w (.int .i64 0) (.int .i64 0) (.string ⟨#[]⟩) (.string ⟨#[]⟩) (.slice none 0 0) (.slice none 0 0) (.slice none 0 0))
 have HX:=Lib.hid hx
 obtain ⟨tk,tss,tn,tp⟩:=t
 simp only at hk HP HL HS
 subst hk
 obtain ⟨S,hS⟩:∃ S,S=strB tss:=⟨_,rfl⟩
 rw [← hS] at HP HL HS
 have fl0:=tfield0
 have hz:x < (w.alloc (.cells #[.int .i64 0,.int .i64 0,.string ⟨#[]⟩,.string ⟨#[]⟩,.slice none 0 0,.slice none 0 0,.slice none 0 0] 27)).heap.size:=by simp;omega
 have hxb:=hx.ne h
 clear h hx ht hlf hleaf hS hok
 go_enter Tryz.func141,Tryz.ntmps141
 go_wp2_with (first | (go_at_call 56;refine (HP.out _ H0.out).mono ?_;rintro e w1 ⟨rfl,hb⟩;have HB:=Lib.hid hb;have H1:=Lib.hid (H0.out.below hb);have HE1:=Lib.hid (HE0.out.kept (grown_below hb none) (by simp));have HX1:=Lib.hid ((HX.out.kept (World.grownBy_alloc w _ none) (by simp)).kept (grown_below hb none) (by simp));have cx1:=HX1.out.c;have hz1:w.heap.size < w1.heap.size:=(by have:=hb.size;simp at this;omega);clear hb) | (go_at_call 86;refine (HL.out _ H1.out).mono ?_;rintro e w2 ⟨rfl,hw⟩;have HW:=Lib.hid hw;have HE2:=Lib.hid (HE1.out.kept hw.2 (by simp;omega));have e0:=HE2.out.c0;have e1:=HE2.out.c1;have e2:=HE2.out.c2;have e3:=HE2.out.c3;have e4:=HE2.out.c4;have e5:=HE2.out.c5;have e6:=HE2.out.c6;have r0:=HE2.out.fr 0;have r1:=HE2.out.fr 1;have r2:=HE2.out.fr 2;have r3:=HE2.out.fr 3;have r4:=HE2.out.fr 4;have r5:=HE2.out.fr 5;have r6:=HE2.out.fr 6;clear hw))
 exact bodyPost_ret (res_atom1 rfl (HE2.out.all (.int .i64 0) (.int .i64 0) (.string S) (.string ⟨#[]⟩) (.slice none 0 0) (.slice none 0 0) (.slice none 0 0))) rfl
  ⟨0,0,S,⟨#[]⟩,none,0,0,none,0,0,none,0,0,rfl,HS.out _ _,HW.out.1.kept (set7_grown _ _ _ _ _ _ _ _ _) (by simp;omega) (by simp;omega),
   grown_7 (grown_trans (grown_trans (World.grownBy_alloc w _ _) (grown_below HB.out _)) HW.out.2) (Nat.le_refl _) _ _ _ _ _ _ _⟩
set_option maxRecDepth 100000 in
set_option maxHeartbeats 1000000 in
theorem atom1_int (x b g go c:Nat)(ts:List Rt)(nx dp:Nat)(t:Rt)(w:World)(h:PS w b g go c ts nx dp)(hx:BoxP w x b)(ht:ts[nx]?=some t)(hk:t.k=3)(hok:TokOk ts) :
  Calls Tryz.prog 141 #[.pointer (some ⟨x,0,none⟩)] w (ExprTo w b g go c ts (nx+1) dp (leafOf t)):=by
 have hbl:=h.blt
 have hgl:=h.lt
 have hxl:=hx.lt
 have cx:=hx.c
 have hleaf:leafOf t=.mk 1 t.n [] [] [] [] [] []:=by unfold leafOf;rw [if_pos hk]
 have HS:Hid (∀ (P:Nat→Prop) w',RepE P w' (leafOf t) [.int .i64 1,.int .i64 t.n,.string ⟨#[]⟩,.string ⟨#[]⟩,.slice none 0 0,.slice none 0 0,.slice none 0 0]):=fun P w'=>by
  rw [hleaf];exact rep_leaf (s:=[]) (okN_small (by omega)) (hok.2 _ _ ht).2 okS_nil
 obtain ⟨lf,hlf⟩:∃ lf,lf=leafOf t:=⟨_,rfl⟩
 rw [← hlf] at HS ⊢
 have HP:=Lib.hid (fun w h=>peek_any b g go c ts nx dp t w h ht)
 have HL:Hid (∀ w,PS w b g go c ts nx dp→Calls Tryz.prog 84 #[.pointer (some ⟨b,0,none⟩),.int .i64 3] w fun e w'=>e=.returned (.agg #[.int .i64 t.k,.string (strB t.s),.int .i64 t.n,.int .i64 t.p])∧Went w w' b g go c ts (nx+1) dp):=fun w h=>by have:=token_ok b g go c ts nx dp t w h ht hok.1;rw [hk] at this ⊢;exact this
 have H0:Hid (PS (w.alloc (.cells #[.int .i64 0,.int .i64 0,.string ⟨#[]⟩,.string ⟨#[]⟩,.slice none 0 0,.slice none 0 0,.slice none 0 0] 27)) b g go c ts nx dp):=h.below ((Below.refl _ _).alloc (Nat.le_refl _) _)
 have HE0:=Lib.hid (EB.new w (.int .i64 0) (.int .i64 0) (.string ⟨#[]⟩) (.string ⟨#[]⟩) (.slice none 0 0) (.slice none 0 0) (.slice none 0 0))
 have HX:=Lib.hid hx
 obtain ⟨tk,tss,tn,tp⟩:=t
 simp only at hk HP HL HS
 subst hk
 obtain ⟨S,hS⟩:∃ S,S=strB tss:=⟨_,rfl⟩
 rw [← hS] at HP HL
 have fl0:=tfield0
 have fl2:=tfield2
 have hz:x < (w.alloc (.cells #[.int .i64 0,.int .i64 0,.string ⟨#[]⟩,.string ⟨#[]⟩,.slice none 0 0,.slice none 0 0,.slice none 0 0] 27)).heap.size:=by simp;omega
 have hxb:=hx.ne h
 clear h hx ht hlf hleaf hS hok
 go_enter Tryz.func141,Tryz.ntmps141
 go_wp2_with (first | (go_at_call 56;refine (HP.out _ H0.out).mono ?_;rintro e w1 ⟨rfl,hb⟩;have HB:=Lib.hid hb;have H1:=Lib.hid (H0.out.below hb);have HE1:=Lib.hid (HE0.out.kept (grown_below hb none) (by simp));have HX1:=Lib.hid ((HX.out.kept (World.grownBy_alloc w _ none) (by simp)).kept (grown_below hb none) (by simp));have cx1:=HX1.out.c;have hz1:w.heap.size < w1.heap.size:=(by have:=hb.size;simp at this;omega);clear hb) | (go_at_call 84;refine (HL.out _ H1.out).mono ?_;rintro e w2 ⟨rfl,hw⟩;have HW:=Lib.hid hw;have HE2:=Lib.hid (HE1.out.kept hw.2 (by simp;omega));have e0:=HE2.out.c0;have e1:=HE2.out.c1;have e2:=HE2.out.c2;have e3:=HE2.out.c3;have e4:=HE2.out.c4;have e5:=HE2.out.c5;have e6:=HE2.out.c6;have r0:=HE2.out.fr 0;have r1:=HE2.out.fr 1;have r2:=HE2.out.fr 2;have r3:=HE2.out.fr 3;have r4:=HE2.out.fr 4;have r5:=HE2.out.fr 5;have r6:=HE2.out.fr 6;clear hw))
 exact bodyPost_ret (res_atom1 rfl (HE2.out.all (.int .i64 1) (.int .i64 tn) (.string ⟨#[]⟩) (.string ⟨#[]⟩) (.slice none 0 0) (.slice none 0 0) (.slice none 0 0))) rfl
  ⟨1,tn,⟨#[]⟩,⟨#[]⟩,none,0,0,none,0,0,none,0,0,rfl,HS.out _ _,HW.out.1.kept (set7_grown _ _ _ _ _ _ _ _ _) (by simp;omega) (by simp;omega),
   grown_7 (grown_trans (grown_trans (World.grownBy_alloc w _ _) (grown_below HB.out _)) HW.out.2) (Nat.le_refl _) _ _ _ _ _ _ _⟩
end Go.Proofs.YtpjabnemkmdobaaGreatDoor
namespace Go.Proofs.YtpjabnemkmdobaaGreatDoor
open Go.RowKit
theorem res_head {tmps:Array Value}{w:World}{g:Nat}{v0 v1 v2 v3 v4 v5 v6:Value}(h2:tmps.getD 2 undef=.pointer (some ⟨g,0,none⟩))(h:EB w g v0 v1 v2 v3 v4 v5 v6) :
  (results Tryz.f116 tmps).run Tryz.prog w=.ok (.agg #[v0,v1,v2,v3,v4,v5,v6]) w:=by
 have c0:=h.c0
 have c1:=h.c1
 have c2:=h.c2
 have c3:=h.c3
 have c4:=h.c4
 have c5:=h.c5
 have c6:=h.c6
 have h2':tmps[2]?.getD undef=.pointer (some ⟨g,0,none⟩):=by simpa using h2
 simp [results,Tryz.results116,go_sem,h2',c0,c1,c2,c3,c4,c5,c6]
section
variable {P:Program} {ops:Array Oper} {Q:Exit→Act→World→Prop} {md:Region.Mode}
theorem take1 {i:Nat}{oi:Oper}{d:Tmp}{v:Value}{fuel:Nat}{listed:Array Bool}{T:Array Value}{D:List Deferred}{w:World}(hi:ops[i]?=some oi)(hd:oi.dst=some d)
  (hs:Region.noSelect ops=true) (hf:Region.free md ops listed i=true) (hr:(Region.ready md ops listed).contains i=true)
  (hQ:∀ c a w,Q (.panic c) (a.put oi.dst v) w→Q (.panic c) a w) (hy:Yields P ops oi v { tmps:=T,defers:=D })
  (h:wpAny P md ops Q fuel (listed.setIfInBounds i true) { tmps:=T.setIfInBounds d v,defers:=D } w):wpAny P md ops Q (fuel+1) listed { tmps:=T,defers:=D } w :=
 wpAny_take hi hs hf hr hQ hy (by rw [hd];exact h)
end
theorem Below.grownBy' {w w':World}{row:Option Nat}(h:w.grownBy w' none):w.grownBy w' row:=⟨h.os,h.tape,h.output,h.size,fun k hk _=>h.block k hk (by simp)⟩
def NoHead (t:Rt):Prop:=t.s≠[100,111]∧t.s≠[109,97,115,107]∧t.s≠[114,101,115,117,109,101]∧t.s≠[100,114,111,112]
end Go.Proofs.YtpjabnemkmdobaaGreatDoor
namespace Go.Proofs.YtpjabnemkmdobaaGreatDoor
open Go.RowKit
def NoAtom (t:Rt):Prop:=(t.k≠0∧t.k≠2∧t.k≠3)∧t.s≠[116,114,117,101]∧t.s≠[102,97,108,115,101]∧t.s≠[40]∧t.s≠[109,97,116,99,104]∧t.s≠[104,97,110,100,108,101]∧t.s≠[115,104,97,108,108,111,119]∧t.s≠[110,97,109,101,100]
theorem ne_list {a:List UInt8}{S:ByteArray}{l:List UInt8}(hS:S=strB a)(h:a≠l):(S.toList == l)=false:=by rw [hS,ByteArray.toList_eq,data_strB];simpa using h
theorem eq_list {a:List UInt8}{S:ByteArray}{l:List UInt8}(hS:S=strB a)(h:a=l):(S.toList == l)=true:=by rw [hS,ByteArray.toList_eq,data_strB];simpa using h
set_option maxRecDepth 100000 in
set_option maxHeartbeats 1000000 in
theorem isAtom_no (b g go c:Nat)(ts:List Rt)(nx dp:Nat)(t:Rt)(w:World)(h:PS w b g go c ts nx dp)(ht:ts[nx]?=some t)(hn:NoAtom t) :
  Calls Tryz.prog 117 #[.pointer (some ⟨b,0,none⟩)] w fun e w'=>e=.returned (.bool false)∧Below w.heap.size w w':=by
 have HP:=Lib.hid (peek_any b g go c ts nx dp t w h ht)
 obtain ⟨⟨k0,k2,k3⟩,s1,s2,s3,s4,s5,s6,s7⟩:=hn
 obtain ⟨S,hS⟩:∃ S,S=strB t.s:=⟨_,rfl⟩
 rw [← hS] at HP
 have b0:(t.k == 0)=false:=beq_eq_false_iff_ne.2 k0
 have b2:(t.k == 2)=false:=beq_eq_false_iff_ne.2 k2
 have b3:(t.k == 3)=false:=beq_eq_false_iff_ne.2 k3
 have q1:=ne_list hS s1
 have q2:=ne_list hS s2
 have q3:=ne_list hS s3
 have q4:=ne_list hS s4
 have q5:=ne_list hS s5
 have q6:=ne_list hS s6
 have q7:=ne_list hS s7
 have hbl:=h.blt
 clear s1 s2 s3 s4 s5 s6 s7 k0 k2 k3 h ht hS
 go_enter Tryz.func117,Tryz.ntmps117
 go_wp2_with (go_at_call 56;refine (HP.out).mono ?_;rintro e w' ⟨rfl,hb⟩;have HB:=Lib.hid hb;clear hb)
 go_ret
 exact ⟨rfl,HB.out.alloc HB.out.size _⟩
def opLv (s:List UInt8):Option Int:=if s=[42] then some 3 else if s=[43]∨s=[45] then some 2 else if s=[60]∨s=[61,61] then some 1 else none
def opRes (o:Option Int):Ending:=match o with
 | some l=>.returned (.tuple #[.int .i64 l,.bool true])
 | none=>.returned (.tuple #[.int .i64 0,.bool false])
set_option maxRecDepth 100000 in
set_option maxHeartbeats 1000000 in
theorem opLevel_any (s:List UInt8)(w:World):Calls Tryz.prog 71 #[.string (strB s)] w fun e w'=>e=opRes (opLv s)∧w=w':=by
 obtain ⟨S,hS⟩:∃ S,S=strB s:=⟨_,rfl⟩
 rw [← hS]
 by_cases h1:s=[42]
 ·have q1:=eq_list hS h1
  have HR:=Lib.hid (show opRes (opLv s)=.returned (.tuple #[.int .i64 3,.bool true]) by unfold opLv;rw [if_pos h1];rfl)
  clear hS h1
  go_enter Tryz.func71,Tryz.ntmps71
  go_wp2_with fail
  go_ret2
  exact ⟨by rw [HR.out];rfl,rfl⟩
 have q1:=ne_list hS h1
 by_cases h2:s=[43]
 ·have q2:=eq_list hS h2
  have HR:=Lib.hid (show opRes (opLv s)=.returned (.tuple #[.int .i64 2,.bool true]) by unfold opLv;rw [if_neg h1,if_pos (.inl h2)];rfl)
  clear hS h1 h2
  go_enter Tryz.func71,Tryz.ntmps71
  go_wp2_with fail
  go_ret2
  exact ⟨by rw [HR.out];rfl,rfl⟩
 have q2:=ne_list hS h2
 by_cases h3:s=[45]
 ·have q3:=eq_list hS h3
  have HR:=Lib.hid (show opRes (opLv s)=.returned (.tuple #[.int .i64 2,.bool true]) by unfold opLv;rw [if_neg h1,if_pos (.inr h3)];rfl)
  clear hS h1 h2 h3
  go_enter Tryz.func71,Tryz.ntmps71
  go_wp2_with fail
  go_ret2
  exact ⟨by rw [HR.out];rfl,rfl⟩
 have q3:=ne_list hS h3
 by_cases h4:s=[60]
 ·have q4:=eq_list hS h4
  have HR:=Lib.hid (show opRes (opLv s)=.returned (.tuple #[.int .i64 1,.bool true]) by unfold opLv;rw [if_neg h1,if_neg (by simp [h2,h3]),if_pos (.inl h4)];rfl)
  clear hS h1 h2 h3 h4
  go_enter Tryz.func71,Tryz.ntmps71
  go_wp2_with fail
  go_ret2
  exact ⟨by rw [HR.out];rfl,rfl⟩
 have q4:=ne_list hS h4
 by_cases h5:s=[61,61]
 ·have q5:=eq_list hS h5
  have HR:=Lib.hid (show opRes (opLv s)=.returned (.tuple #[.int .i64 1,.bool true]) by unfold opLv;rw [if_neg h1,if_neg (by simp [h2,h3]),if_pos (.inr h5)];rfl)
  clear hS h1 h2 h3 h4 h5
  go_enter Tryz.func71,Tryz.ntmps71
  go_wp2_with fail
  go_ret2
  exact ⟨by rw [HR.out];rfl,rfl⟩
 have q5:=ne_list hS h5
 have HR:=Lib.hid (show opRes (opLv s)=.returned (.tuple #[.int .i64 0,.bool false]) by unfold opLv;rw [if_neg h1,if_neg (by simp [h2,h3]),if_neg (by simp [h4,h5])];rfl)
 clear hS h1 h2 h3 h4 h5
 go_enter Tryz.func71,Tryz.ntmps71
 go_wp2_with fail
 go_ret2
 exact ⟨by rw [HR.out];rfl,rfl⟩
def isOp (t:Rt)(l:Int):Bool:=decide (opLv t.s=some l)
set_option maxRecDepth 100000 in
set_option maxHeartbeats 1000000 in
theorem isOperator_any (b g go c:Nat)(ts:List Rt)(nx dp:Nat)(t:Rt)(l:Int)(w:World)(h:PS w b g go c ts nx dp)(ht:ts[nx]?=some t)(r:Bool)(hr:isOp t l=r) :
  Calls Tryz.prog 91 #[.pointer (some ⟨b,0,none⟩),.int .i64 l] w fun e w'=>e=.returned (.bool r)∧Below w.heap.size w w':=by
 have HP:=Lib.hid (peek_any b g go c ts nx dp t w h ht)
 have hbl:=h.blt
 have fl1:=tfield1
 have HO:=Lib.hid (fun w=>opLevel_any t.s w)
 unfold isOp at hr
 cases ho:opLv t.s with
 | none =>
  have hr2:r=false:=by rw [ho] at hr;rw [← hr];rfl
  subst hr2
  have HO1:Hid (∀ w,Calls Tryz.prog 71 #[.string (strB t.s)] w fun e w'=>e=.returned (.tuple #[.int .i64 0,.bool false])∧w=w'):=fun w=>(HO.out w).mono fun e w' h=>⟨by rw [h.1,ho];rfl,h.2⟩
  obtain ⟨S,hS⟩:∃ S,S=strB t.s:=⟨_,rfl⟩
  rw [← hS] at HP HO1
  clear h ht hr ho hS HO
  go_enter Tryz.func91,Tryz.ntmps91
  go_wp2_with (first | (go_at_call 56;refine (HP.out).mono ?_;rintro e w' ⟨rfl,hb⟩;have HB:=Lib.hid hb;clear hb) | (go_at_call 71;refine (HO1.out _).mono ?_;rintro e w' ⟨rfl,rfl⟩))
  go_ret
  exact ⟨rfl,HB.out⟩
 | some m =>
  have HO1:Hid (∀ w,Calls Tryz.prog 71 #[.string (strB t.s)] w fun e w'=>e=.returned (.tuple #[.int .i64 m,.bool true])∧w=w'):=fun w=>(HO.out w).mono fun e w' h=>⟨by rw [h.1,ho];rfl,h.2⟩
  obtain ⟨S,hS⟩:∃ S,S=strB t.s:=⟨_,rfl⟩
  rw [← hS] at HP HO1
  have hml:(m == l)=r:=by
   rw [ho] at hr;rw [← hr]
   by_cases e:m=l
   ·subst e;simp
   ·rw [beq_eq_false_iff_ne.2 e,eq_comm];simp [e]
  clear h ht hr ho hS HO
  cases r
  all_goals
   go_enter Tryz.func91,Tryz.ntmps91
   go_wp2_with (first | (go_at_call 56;refine (HP.out).mono ?_;rintro e w' ⟨rfl,hb⟩;have HB:=Lib.hid hb;clear hb) | (go_at_call 71;refine (HO1.out _).mono ?_;rintro e w' ⟨rfl,rfl⟩))
   go_ret
   exact ⟨rfl,HB.out⟩
end Go.Proofs.YtpjabnemkmdobaaGreatDoor
namespace Go.Proofs.YtpjabnemkmdobaaGreatDoor
open Go.RowKit
theorem infoU8:(Tryz.prog.info? 5).map (fun i=>(i.zero,i.size,i.bytes))=some (some (.int .u8 0),1,1):=by kernel_rfl
theorem infoBld:∃ j,Tryz.prog.info? 47=some j∧j.size≠0:=by
 have h:(Tryz.prog.info? 47).map (fun i=>i.size)=some 2:=by kernel_rfl
 obtain ⟨j,hj,hs⟩:=Option.map_eq_some_iff.1 h
 exact ⟨j,hj,by rw [hs];decide⟩
def ruleFn:Nat→Nat
 | 0=>24 | 1=>26 | 2=>27 | 3=>28 | 4=>29 | 5=>37
 | 6=>31 | 7=>32 | 8=>33 | 9=>36 | 10=>44 | 11=>45
 | 12=>38 | 13=>40 | 14=>47 | 15=>48 | 16=>41 | 17=>35
 | 18=>42 | _=>43
def ruleB (k:Nat):Bool:=[1,2,17,9,5,10,14].contains k
def ruleV (p x k:Nat):Value:=if ruleB k=true then .func (.func (ruleFn k)) #[.pointer (some ⟨p,0,none⟩)] #[] else .func (.func (ruleFn k)) #[] #[.pointer (some ⟨x,0,none⟩)]
def ruleKs:List Nat:=[0,1,2,3,4,6,7,8,17,9,5,12,13,16,18,19,10,11,14,15]
def ruleEs (p x:Nat)(ks:List Nat):List MapEntry:=ks.zipIdx.map fun kj=>{ key:=.int .i64 kj.1,val:=ruleV p x kj.1,born:=kj.2 }
def BufAt (B p:Nat)(v:Value)(bs:List UInt8)(w:World):Prop:=w.ownsRow B 5 1 v bs.length (Lib.byteCells bs)∧v.ownBlock≠some p
def Pr (B p x m:Nat)(lim:Int)(bs:List UInt8)(w:World):Prop :=
 B≤p∧p < x∧x < m∧(∃ a v,(a=none∨a=some ⟨p,0,none⟩)∧w.heap[p]?=some (.cells #[.pointer a,v,.int .i64 lim,.map (some m)] 50 (0,0))∧BufAt B p v bs w) ∧
  w.heap[x]?=some (.cells #[.pointer (some ⟨p,0,none⟩)] 39 (0,0))∧(∃ born,w.heap[m]?=some (.map (ruleEs p x ruleKs).toArray born))∧Tab w∧3 < B
def FrP (B p:Nat)(w w':World):Prop:=Below B w w'∧Lib.OthersKept 5 (some p) w w'∧w.heap.size≤w'.heap.size
section
variable {B p x m:Nat} {lim:Int} {bs:List UInt8} {w w' w'':World}
theorem FrP.refl (B p:Nat)(w:World):FrP B p w w:=⟨Below.refl _ _,Lib.OthersKept.refl _ _ _,Nat.le_refl _⟩
theorem FrP.trans (h:FrP B p w w')(k:FrP B p w' w''):FrP B p w w'':=⟨h.1.trans k.1,h.2.1.trans k.2.1,Nat.le_trans h.2.2 k.2.2⟩
theorem FrP.drew (h:FrP B p w w'):FrP B p w w'.drew:=⟨h.1.drew,h.2.1.drew,h.2.2⟩
theorem FrP.alloc (h:FrP B p w w')(hB:B≤w.heap.size)(o:Obj):FrP B p w (w'.alloc o):=⟨h.1.alloc (Nat.le_trans hB h.2.2) o,h.2.1.alloc o,by rw [World.size_alloc];exact Nat.le_succ_of_le h.2.2⟩
theorem FrP.blk (h:FrP B p w w'){b:Nat}{cs:Array Value}{t:TypeId}{f:Nat × Nat}(hb:w.heap[b]?=some (.cells cs t f))(ht:t≠5)(hp:b≠p):w'.heap[b]?=some (.cells cs t f) :=
 h.2.1 b _ hb (fun e=>hp (Option.some.inj e)) (fun c fz e=>ht (by injection e))
theorem FrP.map (h:FrP B p w w'){b:Nat}{es:Array MapEntry}{n:Nat}(hb:w.heap[b]?=some (.map es n))(hp:b≠p):w'.heap[b]?=some (.map es n) :=
 h.2.1 b _ hb (fun e=>hp (Option.some.inj e)) (fun c fz e=>by cases e)
theorem FrP.same (h:FrP B p w w'):Same (fun b=>b < B) w w':=⟨h.2.2,fun b hb _=>h.1.block b hb⟩
theorem BufAt.alloc {v:Value}(h:BufAt B p v bs w)(o:Obj):BufAt B p v bs (w.alloc o):=⟨h.1.alloc o,h.2⟩
theorem Pr.ltp (h:Pr B p x m lim bs w):p < w.heap.size:=by
 obtain ⟨_,_,_,⟨a,v,_,h,_⟩,_⟩:=h
 exact (Array.getElem?_eq_some_iff.1 h).1
theorem Pr.alloc (h:Pr B p x m lim bs w)(o:Obj):Pr B p x m lim bs (w.alloc o):=by
 obtain ⟨h1,h2,h3,⟨a,v,ha,hp,hv⟩,hx,⟨born,hm⟩,⟨t,fr,ht⟩,hb⟩:=h
 exact ⟨h1,h2,h3,⟨a,v,ha,(Lib.alloc_old w o p (Array.getElem?_eq_some_iff.1 hp).1).trans hp,hv.alloc o⟩,(Lib.alloc_old w o x (Array.getElem?_eq_some_iff.1 hx).1).trans hx,⟨born,(Lib.alloc_old w o m (Array.getElem?_eq_some_iff.1 hm).1).trans hm⟩,⟨t,fr,(Lib.alloc_old w o _ (Array.getElem?_eq_some_iff.1 ht).1).trans ht⟩,hb⟩
theorem Pr.drew (h:Pr B p x m lim bs w):Pr B p x m lim bs w.drew:=h
theorem Pr.turn (h:Pr B p x m lim bs w)(hf:FrP B p w w'){bs':List UInt8}(h':∃ a v,(a=none∨a=some ⟨p,0,none⟩)∧w'.heap[p]?=some (.cells #[.pointer a,v,.int .i64 lim,.map (some m)] 50 (0,0))∧BufAt B p v bs' w'):Pr B p x m lim bs' w':=by
 obtain ⟨h1,h2,h3,_,hx,⟨born,hm⟩,⟨t,fr,ht⟩,hb⟩:=h
 exact ⟨h1,h2,h3,h',hf.blk hx (by decide) (by omega),⟨born,hf.map hm (by omega)⟩,⟨t,fr,(hf.1.block _ hb).trans ht⟩,hb⟩
end
set_option maxRecDepth 100000 in
set_option maxHeartbeats 1000000 in
theorem copyCheck_used (p:Nat)(w:World)(h0:w.cell? ⟨p,0,none⟩=some (.pointer (some ⟨p,0,none⟩))) :
  Calls Tryz.prog 101 #[.pointer (some ⟨p,0,none⟩)] w fun e w'=>e=.returned (.tuple #[])∧w=w':=by
 go_enter Tryz.func101,Tryz.ntmps101
 go_wp2
 obtain ⟨j,hj,_⟩:=infoBld
 rw [Lib.run_neq_ptr_same w _ Tryz.underlying44 hj]
 go_wp2
 go_end0
 exact ⟨rfl,rfl⟩
set_option maxRecDepth 100000 in
set_option maxHeartbeats 1000000 in
theorem copyCheck_fresh (p:Nat)(w:World)(h0:w.cell? ⟨p,0,none⟩=some (.pointer none))(hsh:w.shape? p=some (50,4))(hfz:w.frozen? ⟨p,0,none⟩=false) :
  Calls Tryz.prog 101 #[.pointer (some ⟨p,0,none⟩)] w fun e w'=>e=.returned (.tuple #[])∧w.setCell ⟨p,0,none⟩ (.pointer (some ⟨p,0,none⟩))=w':=by
 obtain ⟨j,hj,hjs⟩:=infoBld
 have hlies:liesAt Tryz.prog Tryz.prog.depth 50 (4 / Tryz.prog.cellsOf 50) 0 47 1=true:=by kernel_rfl
 go_enter Tryz.func101,Tryz.ntmps101
 go_wp2
 rw [Lib.run_to_unsafe w ⟨p,0,none⟩ Tryz.underlying44 Tryz.underlying155 hj hjs hsh (Nat.zero_lt_succ 3)]
 simp only [Result.andThen]
 rw [Oper.upon_value]
 go_wp2
 rw [run_callFunc_extern Tryz.func126 (by kernel_rfl) (by kernel_rfl) (by kernel_rfl) (e:=Extern.AbiNoEscape.same) (by kernel_rfl)]
 rw [Lib.run_noEscape]
 simp only [Result.andThen]
 rw [Oper.upon_value]
 go_wp2
 rw [Lib.run_from_unsafe w ⟨p,0,none⟩ Tryz.underlying155 Tryz.underlying44 hj hsh hlies]
 simp only [Result.andThen]
 rw [Oper.upon_value]
 go_wp2
 go_end0
 exact ⟨rfl,rfl⟩
def PB (B p m:Nat)(lim:Int)(bs:List UInt8)(w:World):Prop:=∃ a v,(a=none∨a=some ⟨p,0,none⟩)∧w.heap[p]?=some (.cells #[.pointer a,v,.int .i64 lim,.map (some m)] 50 (0,0))∧BufAt B p v bs w
def PBu (B p m:Nat)(lim:Int)(bs:List UInt8)(w:World):Prop:=∃ v,w.heap[p]?=some (.cells #[.pointer (some ⟨p,0,none⟩),v,.int .i64 lim,.map (some m)] 50 (0,0))∧BufAt B p v bs w
theorem BufAt.set {B p q:Nat}{v u:Value}{bs:List UInt8}{w:World}(i:Nat)(h:BufAt B p v bs w)(hq:q=p):BufAt B p v bs (w.setCell ⟨q,i,none⟩ u):=by
 subst hq
 refine ⟨h.1.kept (row:=some q) ⟨rfl,rfl,rfl,by simp [World.setCell],fun k _ hk=>Below.heap_setCell _ _ _ _ (fun e=>hk (by simp [e]))⟩ ?_,h.2⟩
 exact Or.inr h.2
theorem heap_set {w:World}{p i:Nat}{cs:Array Value}{t:TypeId}{f:Nat × Nat}{v:Value}(h:w.heap[p]?=some (.cells cs t f)):(w.setCell ⟨p,i,none⟩ v).heap[p]?=some (.cells (cs.setIfInBounds i v) t f):=by
 simp [World.setCell,Array.getElem?_modify,h]
set_option maxRecDepth 100000 in
set_option maxHeartbeats 1000000 in
theorem copyCheck_any (B p m:Nat)(lim:Int)(bs:List UInt8)(w:World)(hB:B≤p)(h:PB B p m lim bs w) :
  Calls Tryz.prog 101 #[.pointer (some ⟨p,0,none⟩)] w fun e w'=>e=.returned (.tuple #[])∧PBu B p m lim bs w'∧FrP B p w w':=by
 obtain ⟨a,v,ha,hp,hv⟩:=h
 rcases ha with rfl | rfl
 ·refine (copyCheck_fresh p w (cell_of_row w p 0 _ _ (0,0) hp) (by simp [World.shape?,hp]) (by simp [World.frozen?,hp])).mono ?_
  rintro e w' ⟨rfl,rfl⟩
  exact ⟨rfl,⟨v,heap_set hp,hv.set 0 rfl⟩,(Below.refl _ _).setCell (p:=⟨p,0,none⟩) hB _,(Lib.OthersKept.refl _ _ w).setCell ⟨p,0,none⟩ rfl _,by simp [World.setCell]⟩
 ·refine (copyCheck_used p w (cell_of_row w p 0 _ _ (0,0) hp)).mono ?_
  rintro e w' ⟨rfl,rfl⟩
  exact ⟨rfl,⟨v,hp,hv⟩,FrP.refl _ _ _⟩
set_option maxRecDepth 100000 in
set_option maxHeartbeats 2000000 in
theorem writeStr_any (B p m:Nat)(lim:Int)(bs:List UInt8)(s:List UInt8)(w:World)(hB:B≤p)(h:PB B p m lim bs w)(hlen:bs.length+s.length≤140737488355328) :
  Calls Tryz.prog 67 #[.pointer (some ⟨p,0,none⟩),.string (strB s)] w fun e w'=>e=.returned (.tuple #[.int .i64 s.length,.nilIface])∧PB B p m lim (bs++s) w'∧FrP B p w w':=by
 obtain ⟨i0,hi,hz0,hz1,hz2⟩:=info_parts infoU8
 have HC:=Lib.hid (copyCheck_any B p m lim bs w hB h)
 have hss:=Lib.hid (strB_size s)
 clear h
 go_enter Tryz.func67,Tryz.ntmps67
 go_wp2_with fail
 refine HC.out.mono ?_
 rintro e w1 ⟨rfl,⟨v,hp,hv,hne⟩,hf⟩
 have c0:w1.cell? ⟨p,0,none⟩=some (.pointer (some ⟨p,0,none⟩)):=cell_of_row w1 p 0 _ _ (0,0) hp
 have c1:w1.cell? ⟨p,1,none⟩=some v:=cell_of_row w1 p 1 _ _ (0,0) hp
 have hlt:p < w1.heap.size:=(Array.getElem?_eq_some_iff.1 hp).1
 have HF:=Lib.hid hf
 clear hf HC
 have HH:=Lib.hid hp
 clear hp
 go_wp2_with (at_builtin;refine Lib.wpList_append_own_string _ rfl _ _ 45 9 rfl B 5 i0 Tryz.underlying45 Tryz.underlying9 hi hz0 hz1 hz2 _ _ _ rfl hv (strB s) rfl ?c3 ?c4 ?c5 ?_)
 case c3=>rw [hss.out];unfold maxLen;omega
 case c4=>rw [hss.out];exact hlen
 case c5=>omega
 intro v' w2 hown' hgrow _
 have hp2:w2.heap[p]?=some (.cells #[.pointer (some ⟨p,0,none⟩),v,.int .i64 lim,.map (some m)] 50 (0,0)):=by
  rw [hgrow.block p hlt (fun e=>hne e.symm)]
  exact HH.out
 have d0:w2.cell? ⟨p,0,none⟩=some (.pointer (some ⟨p,0,none⟩)):=cell_of_row w2 p 0 _ _ (0,0) hp2
 have d1:w2.cell? ⟨p,1,none⟩=some v:=cell_of_row w2 p 1 _ _ (0,0) hp2
 have f1:w2.frozen? ⟨p,1,none⟩=false:=by simp [World.frozen?,hp2]
 have HP2:=Lib.hid hp2
 obtain ⟨A',n',cap',rfl⟩:∃ A' n' cap',v'=.slice A' n' cap':=by
  rcases hown'.2 with ⟨e,_⟩ | ⟨g,cap,cur,e,_⟩
  ·exact ⟨_,_,_,e⟩
  ·exact ⟨_,_,_,e⟩
 have HO:=Lib.hid hown'
 have HG:=Lib.hid hgrow
 have HV:=Lib.hid hv
 have HN:=Lib.hid hne
 clear hp2 hown' hgrow hv hne c0 c1
 go_wp2_with fail
 go_ret2
 have hne2:Value.ownBlock (.slice A' n' cap')≠some p:=by
  rcases HO.out.2 with ⟨e,_⟩ | ⟨g,cap,cur,e,_,hg,_⟩
  ·injection e with e
   subst e
   simp [Value.ownBlock]
  ·injection e with e
   subst e
   intro h
   simp only [Value.ownBlock,Option.some.injEq] at h
   subst h
   rw [HP2.out] at hg
   injection hg with hg
   injection hg with _ hg
   exact absurd hg (by decide)
 have hrow:∀ g,v.ownBlock=some g→∃ c fz,w1.heap[g]?=some (.cells c 5 fz):=fun g hg=>by
  rcases HV.out.2 with ⟨e,_⟩ | ⟨g',cap,cur,e,_,hgg,_⟩
  ·subst e;simp [Value.ownBlock] at hg
  ·subst e
   simp only [Value.ownBlock,Option.some.injEq] at hg
   subst hg
   exact ⟨_,_,hgg⟩
 refine ⟨rfl,⟨_,.slice A' n' cap',.inr rfl,heap_set HP2.out,BufAt.set 1 ⟨by rw [List.length_append];simpa [Lib.byteCells,Lib.strCells_eq,hss.out,data_strB] using HO.out,hne2⟩ rfl⟩,HF.out.trans ⟨?_,?_,?_⟩⟩
 ·exact ((Below.refl _ _).grown HG.out (by omega) (fun k hk=>by
   rcases HV.out.2 with ⟨e,_⟩ | ⟨g',cap,cur,e,hbg,_⟩
   ·subst e;simp [Value.ownBlock] at hk
   ·subst e
    simp only [Value.ownBlock,Option.some.injEq] at hk
    omega)).setCell (p:=⟨p,1,none⟩) hB _
 ·exact ((Lib.OthersKept.refl _ _ _).grown HG.out hrow).setCell ⟨p,1,none⟩ rfl _
 ·have:=HG.out.size
  simp [World.setCell]
  exact this
set_option maxRecDepth 100000 in
set_option maxHeartbeats 1000000 in
theorem len_any (B p m:Nat)(lim:Int)(bs:List UInt8)(w:World)(h:PB B p m lim bs w) :
  Calls Tryz.prog 66 #[.pointer (some ⟨p,0,none⟩)] w fun e w'=>e=.returned (.int .i64 bs.length)∧w=w':=by
 obtain ⟨a,v,ha,hp,hv⟩:=h
 obtain ⟨A',cap',rfl⟩:∃ A' cap',v=.slice A' bs.length cap':=by
  rcases hv.1.2 with ⟨e,h0⟩ | ⟨g,cap,cur,e,_⟩
  ·exact ⟨none,0,by rw [e,h0]⟩
  ·exact ⟨_,_,e⟩
 have c1:w.cell? ⟨p,1,none⟩=some (.slice A' bs.length cap'):=cell_of_row w p 1 _ _ (0,0) hp
 clear hv hp ha
 go_enter Tryz.func66,Tryz.ntmps66
 go_wp2_with fail
 go_ret
 exact ⟨rfl,rfl⟩
theorem Pr.pb {B p x m:Nat}{lim:Int}{bs:List UInt8}{w:World}(h:Pr B p x m lim bs w):PB B p m lim bs w:=h.2.2.2.1
end Go.Proofs.YtpjabnemkmdobaaGreatDoor
namespace Go.Proofs.YtpjabnemkmdobaaGreatDoor
open Go.RowKit
abbrev Txt:=List UInt8
def wr1 (lim:Int)(b s:Txt):Txt:=if (b.length:Int)≤lim then b++s else b
def wrs (lim:Int)(b:Txt)(ps:List Txt):Txt:=ps.foldl (wr1 lim) b
def tot (ps:List Txt):Nat:=(ps.map List.length).sum
theorem wrs_append (lim:Int)(b:Txt)(ps qs:List Txt):wrs lim b (ps++qs)=wrs lim (wrs lim b ps) qs:=by unfold wrs;rw [List.foldl_append]
theorem tot_append (ps qs:List Txt):tot (ps++qs)=tot ps+tot qs:=by unfold tot;rw [List.map_append,List.sum_append]
theorem tot_cons (s:Txt)(ps:List Txt):tot (s :: ps)=s.length+tot ps:=rfl
theorem wr1_len (lim:Int)(b s:Txt):(wr1 lim b s).length≤b.length+s.length:=by
 unfold wr1;split
 ·rw [List.length_append];exact Nat.le_refl _
 ·omega
theorem wrs_len (lim:Int):∀ (ps:List Txt) (b:Txt),(wrs lim b ps).length≤b.length+tot ps
 | [],b=>Nat.le_refl _
 | s :: r,b=>by
  have h1:=wr1_len lim b s
  have h2:=wrs_len lim r (wr1 lim b s)
  rw [tot_cons]
  show (wrs lim (wr1 lim b s) r).length≤_
  omega
theorem wrs_all (lim:Int):∀ (ps:List Txt) (b:Txt),((b.length+tot ps:Nat):Int)≤lim→wrs lim b ps=b++ps.flatten
 | [],b,_=>by simp [wrs]
 | s :: r,b,h=>by
  rw [tot_cons] at h
  have h1:wr1 lim b s=b++s:=if_pos (by omega)
  have h2:=wrs_all lim r (b++s) (by rw [List.length_append];omega)
  show wrs lim (wr1 lim b s) r=_
  rw [h1,h2,List.flatten_cons,List.append_assoc]
def PcsAt (w:World)(g:Nat)(ps:List Txt):Prop:=w.heap[g]?=some (.cells (ps.map fun s=>Value.string (strB s)).toArray 9 (0,0))
theorem PcsAt.cell {w:World}{g:Nat}{ps:List Txt}(h:PcsAt w g ps){j:Nat}{s:Txt}(hj:ps[j]?=some s):w.cell? ⟨g,j,none⟩=some (.string (strB s)):=by
 unfold PcsAt at h
 simp [World.cell?,h,hj]
theorem PcsAt.ne {B p x m:Nat}{lim:Int}{bs:Txt}{w:World}{g:Nat}{ps:List Txt}(h:PcsAt w g ps)(hp:Pr B p x m lim bs w):g≠p:=by
 intro e
 subst e
 obtain ⟨_,_,_,⟨a,v,_,hh,_⟩,_⟩:=hp
 unfold PcsAt at h
 rw [hh] at h
 injection h with h
 injection h with _ h
 exact absurd h (by decide)
theorem PcsAt.fr {B p:Nat}{w w':World}{g:Nat}{ps:List Txt}(h:PcsAt w g ps)(hf:FrP B p w w')(hne:g≠p):PcsAt w' g ps:=hf.blk h (by decide) hne
def PrF (B p x m:Nat)(lim:Int)(bs:Txt)(w0 w:World):Prop:=Pr B p x m lim bs w∧FrP B p w0 w
section
variable {B p x m:Nat} {lim:Int} {bs:Txt} {w0 w w':World}
theorem PrF.c2 (h:PrF B p x m lim bs w0 w):w.cell? ⟨p,2,none⟩=some (.int .i64 lim):=by
 obtain ⟨⟨_,_,_,⟨a,v,_,hh,_⟩,_⟩,_⟩:=h
 exact cell_of_row w p 2 _ _ (0,0) hh
theorem PrF.all (h:PrF B p x m lim bs w0 w):w.cell? ⟨p,2,none⟩=some (.int .i64 lim)∧PrF B p x m lim bs w0 w:=⟨h.c2,h⟩
theorem PrF.drew (h:PrF B p x m lim bs w0 w):PrF B p x m lim bs w0 w.drew:=⟨h.1.drew,h.2.drew⟩
end
set_option maxRecDepth 100000 in
set_option maxHeartbeats 2000000 in
theorem write_any (B p x m:Nat)(lim:Int)(bs:Txt)(g:Nat)(ps:List Txt)(w:World)(h:Pr B p x m lim bs w)(hg:PcsAt w g ps)(hn:ps.length≤1000000)(hlen:bs.length+tot ps≤140737488355328) :
  Calls Tryz.prog 25 #[.pointer (some ⟨p,0,none⟩),.slice (some ⟨g,0,none⟩) ps.length ps.length] w fun e w'=>e=.returned (.tuple #[])∧PrF B p x m lim (wrs lim bs ps) w w':=by
 have HP:=Lib.hid h
 have HGn:=Lib.hid (hg.ne h)
 have HG:=Lib.hid hg
 have HLn:=Lib.hid hlen
 obtain ⟨n,hnn⟩:∃ n,n=ps.length:=⟨_,rfl⟩
 have HL:=Lib.hid hnn
 rw [← hnn] at hn ⊢
 clear h hg hlen hnn
 go_enter Tryz.func25,Tryz.ntmps25
 go_wp2_with fail
 go_loopw [8] (fun i wr=>∃ k:Nat,k≤n∧i=.int .i64 (k:Int)∧Hid (PrF B p x m lim (wrs lim bs (ps.take k)) w wr)) (fun i _=>n - (intOf i).toNat)
 case atStart=>exact ⟨0,Nat.zero_le _,rfl,Lib.hid ⟨HP.out,FrP.refl _ _ _⟩⟩
 case round =>
  obtain ⟨k,hk,rfl,hPF⟩:=hrel
  have i0:(0:Int)≤(k:Int):=by omega
  by_cases hkl:k < n
  ·have hkl':k < ps.length:=by rw [← HL.out];exact hkl
   have i1:(k:Int) < (n:Int):=by omega
   have c0:=(HG.out.fr hPF.out.2 HGn.out).cell (List.getElem?_eq_getElem hkl')
   obtain ⟨s,hs⟩:∃ s,s=ps[k]:=⟨_,rfl⟩
   rw [← hs] at c0
   have HT:Hid (wrs lim bs (ps.take (k+1))=wr1 lim (wrs lim bs (ps.take k)) s):=Lib.hid (by rw [List.take_add_one,List.getElem?_eq_getElem hkl',hs,wrs_append];rfl)
   have HB:Hid ((wrs lim bs (ps.take k)).length+s.length≤140737488355328):=Lib.hid (by
    have h1:=wrs_len lim (ps.take k) bs
    have h2:tot ps=tot (ps.take k)+tot (ps.drop k):=by rw [← tot_append,List.take_append_drop]
    have h3:ps.drop k=s :: ps.drop (k+1):=by rw [hs];exact List.drop_eq_getElem_cons hkl'
    rw [h3,tot_cons] at h2
    have:=HLn.out
    omega)
   obtain ⟨bs1,hb1⟩:∃ b,b=wrs lim bs (ps.take k):=⟨_,rfl⟩
   rw [← hb1] at hPF HT HB
   clear hs hb1
   have hpf:=hPF.out
   go_wp2_with fail
   go_region_held3 (fun w'=>w'.cell? ⟨p,2,none⟩=some (.int .i64 lim)∧PrF B p x m lim bs1 w w')
    ((refine PrF.all ?_;first | assumption | exact PrF.drew (by assumption)))
    (first | (go_at_call 66;refine (len_any B p m lim bs1 _ (Pr.pb (PrF.drew hpf).1)).mono ?_;rintro e w' ⟨rfl,rfl⟩))
   rename_i hh
   have HP1:=Lib.hid hh.2
   clear hh hpf hPF c0
   have HW:=Lib.hid (fun hb=>writeStr_any B p m lim bs1 s wr.drew HP1.out.1.1 (Pr.pb HP1.out.1) hb)
   by_cases hle:((bs1.length:Nat):Int)≤lim
   ·have hd:decide (((bs1.length:Nat):Int)≤lim)=true:=decide_eq_true hle
    have HT2:Hid (wrs lim bs (ps.take (k+1))=bs1++s):=Lib.hid (by rw [HT.out];unfold wr1;rw [if_pos hle])
    go_wp2_with fail
    refine (HW.out HB.out).mono ?_
    rintro e w2 ⟨rfl,hpb,hf⟩
    have HP2:Hid (PrF B p x m lim (wrs lim bs (ps.take (k+1))) w w2):=Lib.hid ⟨by rw [HT2.out];exact HP1.out.1.turn hf hpb,HP1.out.2.trans hf⟩
    clear hpb hf
    go_wp2_with fail
    go_roundw
    case rel=>exact ⟨k+1,by omega,by go_num,HP2⟩
    case measure=>simp [intOf];omega
   ·have hd:decide (((bs1.length:Nat):Int)≤lim)=false:=decide_eq_false hle
    have HP2:Hid (PrF B p x m lim (wrs lim bs (ps.take (k+1))) w wr.drew):=Lib.hid (by rw [HT.out];unfold wr1;rw [if_neg hle];exact HP1.out)
    go_wp2_with fail
    go_roundw
    case rel=>exact ⟨k+1,by omega,by go_num,HP2⟩
    case measure=>simp [intOf];omega
  ·obtain rfl:k=n:=by omega
   have HE:Hid (PrF B p x m lim (wrs lim bs ps) w wr):=Lib.hid (by have:=hPF.out;rwa [HL.out,List.take_length] at this)
   go_wp2_with fail
   go_end0
   exact ⟨rfl,HE.out⟩
end Go.Proofs.YtpjabnemkmdobaaGreatDoor
