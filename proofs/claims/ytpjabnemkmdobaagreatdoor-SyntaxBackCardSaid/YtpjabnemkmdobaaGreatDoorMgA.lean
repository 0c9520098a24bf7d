/- Texts put together by program: Plain Ex Leaf Names Src OpenE Great GreatW ChkE Space Kw Int Sym Shelf Symb. -/
import GoSem.Claim
import Derived.Laws.RangeString
import Derived.Lib.DecodeN
import Derived.Below
import Derived.RowKit
import Derived.Test.YtpjabnemkmdobaaGreatDoorProg
import Derived.KernelRfl
import Derived.WalkKit
import Derived.WalkSpells
import Derived.WalkLawsBesides
import Derived.BigQuiet
import Derived.Deep.QuietTactic
import Derived.Lib.Hide
import Derived.Lib.OthersKept
import Derived.Laws.OwnMore
import Derived.Laws.Rows
import Derived.Deep.Draws
import Derived.Deep.AppendLies
import Derived.Deep.Slices
import Derived.Deep.Fields
import Derived.ChangeSame
import Derived.StringKeys
import Derived.ProofKit
import Derived.Maps.Own
import Derived.Maps.OwnSet
import Derived.Maps.Views
import Derived.Shelf.Strings.Builder1
import Derived.Shelf.Strings.Builder2
import Derived.Shelf.Strings.OnBuilder
import Derived.Shelf.Strings.BuilderF
import Derived.Shelf.Strings.BuilderK
import Derived.Shelf.Strings.Builder2Cap
import Derived.Shelf.Strconv.Itoa0
import Derived.Shelf.Strconv.Itoa1
import Derived.Shelf.LaysM
import Derived.Shelf.Strconv.Itoa2
import Derived.Shelf.Strconv.Itoa3
import Derived.Shelf.Strings.Prefix
import Derived.Shelf.Strings.BuilderCap
import Derived.Shelf.Slices.Turned
namespace Go.Proofs.YtpjabnemkmdobaaGreatDoor
def kindI (c:Int):Int:=if (97≤c∧c≤122)∨c=95 then 1 else if 65≤c∧c≤90 then 2 else if 48≤c∧c≤57 then 3 else 0
def kb (c:UInt8):Int:=kindI c.toNat
theorem kindI_hi (c:Int)(h:128≤c):kindI c=0:=by
 unfold kindI;repeat' split
 all_goals omega
def isNm (first:Int)(l:List UInt8):Bool :=
 match l with
 | []=>false
 | c :: r=>decide (r.length < 12) && (kb c == first) && (c :: r).all (fun c=>kb c != 0)
def strB (l:List UInt8):ByteArray:=⟨l.toArray⟩
theorem strB_data (s:ByteArray):strB s.data.toList=s:=rfl
theorem data_strB (l:List UInt8):(strB l).data.toList=l:=rfl
def kwList:List (List UInt8):=[[102,117,110],[108,101,116],[114,101,99],[105,110],[105,102],[116,104,101,110],[101,108,115,101],[109,97,116,99,104],[100,111],[104,97,110,100,108,101],[115,104,97,108,108,111,119],[110,97,109,101,100],[109,97,115,107],[117,115,105,110,103],[99,108,111,115,101],[114,101,115,117,109,101],[100,114,111,112],[114,101,116,117,114,110],[116,114,117,101],[102,97,108,115,101],[100,97,116,97],[101,102,102,101,99,116],[111,110,99,101],[100,101,102],[109,97,105,110]]
def isKw (l:List UInt8):Bool:=kwList.contains l
def symList:List (List UInt8):=[[61,61],[45,62],[40],[41],[123],[125],[91],[93],[44],[59],[58],[46],[61],[60],[62],[124],[64],[43],[45],[42]]
def isSym (l:List UInt8):Bool:=symList.contains l
def intGo:Int→List UInt8→Option Int
 | n,[]=>some n
 | n,c :: r=>if kb c=3 then (if 999999999 < 10*n+((c.toNat:Int) - 48) then none else intGo (10*n+((c.toNat:Int) - 48)) r) else none
def integerS (l:List UInt8):Option Int :=
 match l with
 | []=>none
 | c :: r=>if decide (0 < r.length) && (c == 48) then none else intGo 0 (c :: r)
def tokS (l:List UInt8):Option (Int × List UInt8 × Int) :=
 match integerS l with
 | some n=>some (3,[],n)
 | none=>if isKw l then some (1,l,0) else if isNm 1 l then some (0,l,0) else if isNm 2 l then some (2,l,0) else if isSym l then some (4,l,0) else none
def wordLen (l:List UInt8):Nat:=(l.takeWhile (fun c=>kb c != 0)).length
def symAt (l:List UInt8):List UInt8:=(symList.find? (fun s=>s.isPrefixOf l)).getD []
def partOf (l:List UInt8):List UInt8:=if wordLen l=0 then symAt l else l.take (wordLen l)
def spLen:Bool→List UInt8→Nat
 | _,[]=>0
 | cm,c :: r=>if c=10 then 1+spLen false r else if c=35 then 1+spLen true r else if cm || c == 32 || c == 9 then 1+spLen cm r else 0
structure Tk where
 kind:Int
 s:List UInt8
 n:Int
 pos:Nat
def lexF:Nat→Nat→List UInt8→List Tk × Nat
 | 0,off,_=>([],off)
 | f+1,off,l =>
  match tokS (partOf (l.drop (spLen false l))) with
  | none=>([],off+spLen false l)
  | some (k,s,n) =>
   (⟨k,s,n,off+spLen false l⟩ :: (lexF f (off+spLen false l+(partOf (l.drop (spLen false l))).length) (l.drop (spLen false l+(partOf (l.drop (spLen false l))).length))).1,
    (lexF f (off+spLen false l+(partOf (l.drop (spLen false l))).length) (l.drop (spLen false l+(partOf (l.drop (spLen false l))).length))).2)
def lexS (l:List UInt8):List Tk × Int × Int :=
 if 30000 < l.length then ([],0,3) else if (lexF (l.length+1) 0 l).2 < l.length then ([],(lexF (l.length+1) 0 l).2,2) else ((lexF (l.length+1) 0 l).1,0,0)
theorem decode_hi (s:ByteArray)(pos:Nat)(h:pos < s.size)(ha:128≤(s[pos]'h).toNat):128≤(Utf8.decode s pos).1:=by
 have e:s.get! pos=s[pos]'h:=by
  simp [ByteArray.get!,getElem!_pos,h]
  rfl
 rw [Lib.decode_at,e]
 unfold Lib.decodeN
 rw [if_neg (by omega)]
 repeat' split
 all_goals simp_all
 all_goals omega
theorem isNm_true {first:Int}{l:List UInt8}(h0:0 < l.length)(hl:l.length≤12)(hf:kb (l[0]'h0)=first)(ha:∀ (j:Nat) (h:j < l.length),kb (l[j]'h)≠0):isNm first l=true:=by
 cases l with
 | nil=>simp at h0
 | cons c r =>
  simp only [isNm,Bool.and_eq_true,decide_eq_true_eq,beq_iff_eq,List.all_eq_true,bne_iff_ne]
  simp only [List.length_cons] at hl
  refine ⟨⟨by omega,hf⟩,fun x hx=>?_⟩
  obtain ⟨j,hj,rfl⟩:=List.getElem_of_mem hx
  exact ha j hj
theorem isNm_long {first:Int}{l:List UInt8}(hl:12 < l.length):isNm first l=false:=by
 cases l with
 | nil=>rfl
 | cons c r=>simp only [isNm,List.length_cons] at *;rw [decide_eq_false (by omega)];rfl
theorem isNm_bad {first:Int}{l:List UInt8}(j:Nat)(h:j < l.length)(hk:kb (l[j]'h)=0):isNm first l=false:=by
 cases l with
 | nil=>rfl
 | cons c r =>
  have:(c :: r).all (fun c=>kb c != 0)=false:=by
   rw [List.all_eq_false]
   exact ⟨_,List.getElem_mem h,by simp [hk]⟩
  simp only [isNm,this,Bool.and_false]
theorem isNm_first {first:Int}{l:List UInt8}(h0:0 < l.length)(hf:kb (l[0]'h0)≠first):isNm first l=false:=by
 cases l with
 | nil=>rfl
 | cons c r =>
  have:(kb c == first)=false:=by simpa using hf
  simp only [isNm,this,Bool.and_false,Bool.false_and]
theorem wordLen_eq:∀ (l:List UInt8) (k:Nat),k≤l.length→(∀ (j:Nat) (h:j < l.length),j < k→kb (l[j]'h)≠0)→(∀ h:k < l.length,kb (l[k]'h)=0)→wordLen l=k
 | [],k,hk,_,_=>by simp at hk;subst hk;rfl
 | c :: r,0,_,_,h2=>by
  have:=h2 (by simp)
  simp only [List.getElem_cons_zero] at this
  simp [wordLen,this]
 | c :: r,k+1,hk,h1,h2=>by
  have h0:=h1 0 (by simp) (by omega)
  simp only [List.getElem_cons_zero] at h0
  have ih:=wordLen_eq r k (by simpa using hk) (fun j h hj=>by have:=h1 (j+1) (by simpa using h) (by omega);simpa using this) (fun h=>by have:=h2 (by simpa using h);simpa using this)
  simp only [wordLen] at ih
  simp [wordLen,h0,ih]
theorem spLen_le:∀ (c:Bool) (l:List UInt8),spLen c l≤l.length
 | _,[]=>by simp [spLen]
 | cm,c :: r=>by
  have h1:=spLen_le false r
  have h2:=spLen_le true r
  have h3:=spLen_le cm r
  unfold spLen
  simp only [List.length_cons]
  repeat' split
  all_goals omega
theorem wordLen_le (l:List UInt8):wordLen l≤l.length:=by
 unfold wordLen;exact (List.takeWhile_sublist _).length_le
theorem partOf_le (l:List UInt8):(partOf l).length≤l.length:=by
 unfold partOf
 split
 ·unfold symAt
  cases h:symList.find? (fun s=>s.isPrefixOf l) with
  | none=>simp
  | some x =>
   have:=List.find?_some h
   rw [List.isPrefixOf_iff_prefix] at this
   exact this.length_le
 ·rw [List.length_take];omega
theorem tokS_nil:tokS []=none:=by decide
theorem lexF_none {f p o:Nat}{l:List UInt8}(ho:o=p+spLen false (l.drop p))(h:tokS (partOf (l.drop o))=none):lexF (f+1) p (l.drop p)=([],o):=by
 have e:(l.drop p).drop (spLen false (l.drop p))=l.drop o:=by rw [List.drop_drop,ho]
 simp only [lexF]
 rw [e,h]
 simp only []
 rw [ho]
theorem lexF_some {f p o:Nat}{l:List UInt8}{k n:Int}{s:List UInt8}(ho:o=p+spLen false (l.drop p))(h:tokS (partOf (l.drop o))=some (k,s,n)) :
  lexF (f+1) p (l.drop p)=(⟨k,s,n,o⟩ :: (lexF f (o+(partOf (l.drop o)).length) (l.drop (o+(partOf (l.drop o)).length))).1,(lexF f (o+(partOf (l.drop o)).length) (l.drop (o+(partOf (l.drop o)).length))).2):=by
 have e:(l.drop p).drop (spLen false (l.drop p))=l.drop o:=by rw [List.drop_drop,ho]
 have e2:(l.drop p).drop (spLen false (l.drop p)+(partOf (l.drop o)).length)=l.drop (o+(partOf (l.drop o)).length):=by rw [List.drop_drop,ho];congr 1;omega
 simp only [lexF]
 rw [e,h]
 simp only []
 rw [e2,ho]
theorem part_pos {l:List UInt8}{x:Int × List UInt8 × Int}(h:tokS (partOf l)=some x):0 < (partOf l).length:=by
 rcases Nat.eq_zero_or_pos (partOf l).length with h0 | h0
 ·rw [List.eq_nil_of_length_eq_zero h0,tokS_nil] at h;cases h
 ·exact h0
end Go.Proofs.YtpjabnemkmdobaaGreatDoor
namespace Go.Proofs.YtpjabnemkmdobaaGreatDoor
open Go.RowKit
inductive Ex where
 | mk (k n:Int) (s t:List UInt8) (ns:List (List UInt8)) (l:List Ex) (ops:List (List UInt8 × List (List UInt8))) (bs:List Ex)
namespace Ex
def k:Ex→Int | mk k ..=>k
def n:Ex→Int | mk _ n ..=>n
def s:Ex→List UInt8 | mk _ _ s ..=>s
def t:Ex→List UInt8 | mk _ _ _ t ..=>t
def ns:Ex→List (List UInt8) | mk _ _ _ _ ns ..=>ns
def l:Ex→List Ex | mk _ _ _ _ _ l ..=>l
def ops:Ex→List (List UInt8 × List (List UInt8)) | mk _ _ _ _ _ _ ops _=>ops
def bs:Ex→List Ex | mk _ _ _ _ _ _ _ bs=>bs
def parts (e:Ex):List Ex:=e.l++e.bs
end Ex
def okS (s:List UInt8):Prop:=s.length≤maxLen
def okN (n:Int):Prop:=-9223372036854775808≤n∧n≤9223372036854775807
def NamesAt (P:Nat→Prop)(w:World)(A:Option Addr)(L:List (List UInt8)):Prop :=
 L≠[]→∃ b off,A=some ⟨b,off,none⟩∧P b∧b < w.heap.size∧∀ (j:Nat) (l:List UInt8),L[j]?=some l→w.cell? ⟨b,off+j,none⟩=some (.string (strB l))
def CellsAt (w:World)(b off:Nat)(xs:List Value):Prop:=∀ (i:Nat) (v:Value),xs[i]?=some v→w.cell? ⟨b,off+i,none⟩=some v
def exCells (k n:Int)(s t:List UInt8)(An:Option Addr)(nn cn:Nat)(Al:Option Addr)(nl cl:Nat)(Aa:Option Addr)(na ca:Nat):List Value :=
 [.int .i64 k,.int .i64 n,.string (strB s),.string (strB t),.slice An nn cn,.slice Al nl cl,.slice Aa na ca]
structure Fits (k n:Int) (s t:List UInt8) (ns:List (List UInt8)) (nl na cn cl ca:Nat):Prop where
 hk:okN k
 hn:okN n
 hs:okS s
 ht:okS t
 hns:∀ x∈ns,okS x
 hcn:ns.length≤cn∧cn≤maxLen
 hcl:nl≤cl∧cl≤maxLen
 hca:na≤ca∧ca≤maxLen
mutual
def RepE (P:Nat→Prop)(w:World):Ex→List Value→Prop
 | .mk k n s t ns l ops bs,cs=>∃ An cn Al cl Aa ca,cs=exCells k n s t An ns.length cn Al l.length cl Aa bs.length ca∧Fits k n s t ns l.length bs.length cn cl ca∧NamesAt P w An ns ∧
   (l≠[]→∃ b off,Al=some ⟨b,off,none⟩∧P b∧b < w.heap.size∧RepL P w b off l)∧(bs≠[]→∃ b off,Aa=some ⟨b,off,none⟩∧P b∧b < w.heap.size∧RepA P w b off ops bs)∧ops.length=bs.length
def RepL (P:Nat→Prop)(w:World)(b:Nat):Nat→List Ex→Prop
 | _,[]=>True
 | off,e :: r=>(∃ cs,cs.length=7∧CellsAt w b off cs∧RepE P w e cs)∧RepL P w b (off+7) r
def RepA (P:Nat→Prop)(w:World)(b:Nat):Nat→List (List UInt8 × List (List UInt8))→List Ex→Prop
 | _,_,[]=>True
 | off,ops,e :: r=>(∃ op ns q A c cs,ops=(op,ns) :: q∧okS op∧(∀ x∈ns,okS x)∧ns.length≤c∧c≤maxLen∧cs.length=7∧CellsAt w b off (.string (strB op) :: .slice A ns.length c :: cs)∧NamesAt P w A ns∧RepE P w e cs∧RepA P w b (off+9) q r)
end
def Same (P:Nat→Prop)(w w':World):Prop:=w.heap.size≤w'.heap.size∧∀ b,P b→b < w.heap.size→w'.heap[b]?=w.heap[b]?
theorem Same.cell {P:Nat→Prop}{w w':World}(h:Same P w w'){b:Nat}(hp:P b)(hlt:b < w.heap.size)(o:Nat):w'.cell? ⟨b,o,none⟩=w.cell? ⟨b,o,none⟩:=by
 unfold World.cell?
 simp only [h.2 b hp hlt]
theorem Same.of_below {P:Nat→Prop}{w w':World}(hb:Below w.heap.size w w'):Same P w w':=⟨hb.size,fun b _ hlt=>hb.block b hlt⟩
theorem Same.refl (P:Nat→Prop)(w:World):Same P w w:=⟨Nat.le_refl _,fun _ _ _=>rfl⟩
theorem Same.trans {P:Nat→Prop}{a c d:World}(h:Same P a c)(k:Same P c d):Same P a d :=
 ⟨Nat.le_trans h.1 k.1,fun b hp hlt=>(k.2 b hp (Nat.lt_of_lt_of_le hlt h.1)).trans (h.2 b hp hlt)⟩
theorem NamesAt.keep {P:Nat→Prop}{w w':World}{A:Option Addr}{L:List (List UInt8)}(h:NamesAt P w A L)(hs:Same P w w'):NamesAt P w' A L:=fun h0=>by
 obtain ⟨b,off,e,hp,hlt,hc⟩:=h h0
 exact ⟨b,off,e,hp,Nat.lt_of_lt_of_le hlt hs.1,fun j l hj=>(hs.cell hp hlt _).trans (hc j l hj)⟩
theorem NamesAt.weaken {P Q:Nat→Prop}{w:World}{A:Option Addr}{L:List (List UInt8)}(h:NamesAt P w A L)(hq:∀ b,P b→Q b):NamesAt Q w A L:=fun h0=>by
 obtain ⟨b,off,e,hp,hlt,hc⟩:=h h0
 exact ⟨b,off,e,hq _ hp,hlt,hc⟩
theorem CellsAt.keep {P:Nat→Prop}{w w':World}{b off:Nat}{xs:List Value}(h:CellsAt w b off xs)(hp:P b)(hlt:b < w.heap.size)(hs:Same P w w'):CellsAt w' b off xs :=
 fun i v hi=>(hs.cell hp hlt _).trans (h i v hi)
mutual
theorem RepE.keep {P:Nat→Prop}{w w':World}(hs:Same P w w'):∀ {e:Ex} {cs:List Value},RepE P w e cs→RepE P w' e cs
 | .mk k n s t ns l ops bs,cs,h=>by
  obtain ⟨An,cn,Al,cl,Aa,ca,e,hf,hn,hl,ha,ho⟩:=h
  refine ⟨An,cn,Al,cl,Aa,ca,e,hf,hn.keep hs,fun h0=>?_,fun h0=>?_,ho⟩
  ·obtain ⟨b,off,e,hp,hlt,hr⟩:=hl h0
   exact ⟨b,off,e,hp,Nat.lt_of_lt_of_le hlt hs.1,RepL.keep hs hp hlt hr⟩
  ·obtain ⟨b,off,e,hp,hlt,hr⟩:=ha h0
   exact ⟨b,off,e,hp,Nat.lt_of_lt_of_le hlt hs.1,RepA.keep hs hp hlt hr⟩
theorem RepL.keep {P:Nat→Prop}{w w':World}(hs:Same P w w'){b:Nat}(hp:P b)(hlt:b < w.heap.size):∀ {l:List Ex} {off:Nat},RepL P w b off l→RepL P w' b off l
 | [],off,_=>trivial
 | e :: r,off,h=>by
  obtain ⟨⟨cs,h7,hc,he⟩,hr⟩:=h
  exact ⟨⟨cs,h7,hc.keep hp hlt hs,RepE.keep hs he⟩,RepL.keep hs hp hlt hr⟩
theorem RepA.keep {P:Nat→Prop}{w w':World}(hs:Same P w w'){b:Nat}(hp:P b)(hlt:b < w.heap.size):∀ {l:List Ex} {off:Nat} {ops:List (List UInt8 × List (List UInt8))},RepA P w b off ops l→RepA P w' b off ops l
 | [],off,ops,_=>trivial
 | e :: r,off,ops,h=>by
  obtain ⟨op,ns,q,A,c,cs,e1,h1,h2,h3,h4,h7,hc,hn,he,hr⟩:=h
  exact ⟨op,ns,q,A,c,cs,e1,h1,h2,h3,h4,h7,hc.keep hp hlt hs,hn.keep hs,RepE.keep hs he,RepA.keep hs hp hlt hr⟩
end
mutual
theorem RepE.weaken {P Q:Nat→Prop}{w:World}(hq:∀ b,P b→Q b):∀ {e:Ex} {cs:List Value},RepE P w e cs→RepE Q w e cs
 | .mk k n s t ns l ops bs,cs,h=>by
  obtain ⟨An,cn,Al,cl,Aa,ca,e,hf,hn,hl,ha,ho⟩:=h
  refine ⟨An,cn,Al,cl,Aa,ca,e,hf,hn.weaken hq,fun h0=>?_,fun h0=>?_,ho⟩
  ·obtain ⟨b,off,e,hp,hlt,hr⟩:=hl h0
   exact ⟨b,off,e,hq _ hp,hlt,RepL.weaken hq hr⟩
  ·obtain ⟨b,off,e,hp,hlt,hr⟩:=ha h0
   exact ⟨b,off,e,hq _ hp,hlt,RepA.weaken hq hr⟩
theorem RepL.weaken {P Q:Nat→Prop}{w:World}(hq:∀ b,P b→Q b){b:Nat}:∀ {l:List Ex} {off:Nat},RepL P w b off l→RepL Q w b off l
 | [],off,_=>trivial
 | e :: r,off,h=>by
  obtain ⟨⟨cs,h7,hc,he⟩,hr⟩:=h
  exact ⟨⟨cs,h7,hc,RepE.weaken hq he⟩,RepL.weaken hq hr⟩
theorem RepA.weaken {P Q:Nat→Prop}{w:World}(hq:∀ b,P b→Q b){b:Nat}:∀ {l:List Ex} {off:Nat} {ops:List (List UInt8 × List (List UInt8))},RepA P w b off ops l→RepA Q w b off ops l
 | [],off,ops,_=>trivial
 | e :: r,off,ops,h=>by
  obtain ⟨op,ns,q,A,c,cs,e1,h1,h2,h3,h4,h7,hc,hn,he,hr⟩:=h
  exact ⟨op,ns,q,A,c,cs,e1,h1,h2,h3,h4,h7,hc,hn.weaken hq,RepE.weaken hq he,RepA.weaken hq hr⟩
end
theorem RepL.at {P:Nat→Prop}{w:World}{b:Nat}:∀ {l:List Ex} {off j:Nat} {e:Ex},RepL P w b off l→l[j]?=some e→∃ cs,cs.length=7∧CellsAt w b (off+j*7) cs∧RepE P w e cs
 | [],off,j,e,_,h=>by simp at h
 | x :: r,off,0,e,hr,h=>by
  simp only [List.getElem?_cons_zero,Option.some.injEq] at h
  subst h
  simpa using hr.1
 | x :: r,off,j+1,e,hr,h=>by
  simp only [List.getElem?_cons_succ] at h
  have:=RepL.at hr.2 h
  rwa [show off+7+j*7=off+(j+1)*7 by omega] at this
theorem RepL.of {P:Nat→Prop}{w:World}{b:Nat}:∀ {l:List Ex} {off:Nat},(∀ j e,l[j]?=some e→∃ cs,cs.length=7∧CellsAt w b (off+j*7) cs∧RepE P w e cs)→RepL P w b off l
 | [],off,_=>trivial
 | x :: r,off,h=>by
  refine ⟨by simpa using h 0 x rfl,RepL.of fun j e hj=>?_⟩
  have:=h (j+1) e (by simpa using hj)
  rwa [show off+7+j*7=off+(j+1)*7 by omega]
def ArmAt (P:Nat→Prop)(w:World)(b off:Nat)(o:List UInt8 × List (List UInt8))(e:Ex):Prop :=
 ∃ A c cs,okS o.1∧(∀ x∈o.2,okS x)∧o.2.length≤c∧c≤maxLen∧cs.length=7∧CellsAt w b off (.string (strB o.1) :: .slice A o.2.length c :: cs)∧NamesAt P w A o.2∧RepE P w e cs
theorem RepA.at {P:Nat→Prop}{w:World}{b:Nat}:∀ {l:List Ex} {off j:Nat} {ops:List (List UInt8 × List (List UInt8))} {e:Ex},RepA P w b off ops l→l[j]?=some e→∃ o,ops[j]?=some o∧ArmAt P w b (off+j*9) o e
 | [],off,j,ops,e,_,h=>by simp at h
 | x :: r,off,0,ops,e,hr,h=>by
  simp only [List.getElem?_cons_zero,Option.some.injEq] at h
  subst h
  obtain ⟨op,ns,q,A,c,cs,rfl,h1,h2,h3,h4,h7,hc,hn,he,_⟩:=hr
  exact ⟨(op,ns),rfl,A,c,cs,h1,h2,h3,h4,h7,by simpa using hc,hn,he⟩
 | x :: r,off,j+1,ops,e,hr,h=>by
  simp only [List.getElem?_cons_succ] at h
  obtain ⟨op,ns,q,A,c,cs,rfl,h1,h2,h3,h4,h7,hc,hn,he,hq⟩:=hr
  obtain ⟨o,ho,ha⟩:=RepA.at hq h
  rw [show off+9+j*9=off+(j+1)*9 by omega] at ha
  exact ⟨o,by simpa using ho,ha⟩
theorem RepA.of {P:Nat→Prop}{w:World}{b:Nat}:∀ {l:List Ex} {off:Nat} {ops:List (List UInt8 × List (List UInt8))},ops.length=l.length→(∀ j e,l[j]?=some e→∃ o,ops[j]?=some o∧ArmAt P w b (off+j*9) o e)→RepA P w b off ops l
 | [],off,ops,_,_=>trivial
 | x :: r,off,[],hl,_=>by simp at hl
 | x :: r,off,(op,ns) :: q,hl,h=>by
  obtain ⟨o,ho,A,c,cs,h1,h2,h3,h4,h7,hc,hn,he⟩:=h 0 x rfl
  simp only [List.getElem?_cons_zero,Option.some.injEq] at ho
  subst ho
  refine ⟨op,ns,q,A,c,cs,rfl,h1,h2,h3,h4,h7,by simpa using hc,hn,he,RepA.of (by simpa using hl) fun j e hj=>?_⟩
  obtain ⟨o,ho,ha⟩:=h (j+1) e (by simpa using hj)
  rw [show off+(j+1)*9=off+9+j*9 by omega] at ha
  exact ⟨o,by simpa using ho,ha⟩
theorem Ex.ind {P:Ex→Prop}(h:∀ e,(∀ x∈e.parts,P x)→P e):∀ e,P e:=by
 have key:∀ (n:Nat) (e:Ex),SizeOf.sizeOf e≤n→P e:=by
  intro n
  induction n with
  | zero=>intro e he;cases e;simp at he
  | succ n ih =>
   intro e he
   refine h e fun x hx=>ih x ?_
   cases e with
   | mk k m s t ns l ops bs =>
    simp only [Ex.mk.sizeOf_spec] at he
    rcases List.mem_append.1 hx with hx | hx
    ·have:=List.sizeOf_lt_of_mem (show x∈l from hx);omega
    ·have:=List.sizeOf_lt_of_mem (show x∈bs from hx);omega
 exact fun e=>key _ e (Nat.le_refl _)
theorem ret_int {k:IntKind}{a b:Int}(h:a=b):Ending.returned (.int k a)=.returned (.int k b):=by rw [h]
theorem ret_bool {a b:Bool}(h:a=b):Ending.returned (.bool a)=.returned (.bool b):=by rw [h]
set_option maxHeartbeats 400000 in
theorem kindOf_any (c:Int)(w:World) :
  Calls Tryz.prog 133 #[.int .i32 c] w fun e w'=>e=.returned (.int .i64 (kindI c))∧w=w':=by
 by_cases h95:c=95
 ·subst h95
  go_enter Tryz.func133,Tryz.ntmps133
  go_wp2
  go_ret
  exact ⟨ret_int rfl,rfl⟩
 ·have hb:(c == 95)=false:=by simpa using h95
  go_enter Tryz.func133,Tryz.ntmps133
  go_wp2
  all_goals go_ret
  all_goals refine ⟨ret_int ?_,rfl⟩
  all_goals unfold kindI
  all_goals (clear hb;repeat' split)
  all_goals omega
theorem In_any (c:Int)(n k:Int)(w:World) :
  Calls Tryz.prog 78 #[.int .i64 c,.int .i64 n,.int .i64 k] w fun e w'=>e=.returned (.bool (decide (n≤c) && decide (c≤k)))∧w=w':=by
 by_cases h1:n≤c <;> by_cases h2:c≤k
 all_goals
  go_enter Tryz.func78,Tryz.ntmps78
  go_wp2
  go_ret
  exact ⟨ret_bool (by simp [h1,h2]),rfl⟩
theorem iterPos_of {w:World}{k:Nat}{s:ByteArray}{p:Nat}(h:w.heap[k]?=some (.stringIter s p)):w.iterPos k=p:=by simp [World.iterPos,h]
theorem len_data (s:ByteArray):s.data.toList.length=s.size:=by rw [Array.length_toList];rfl
theorem nil_toList {s:ByteArray}(h:s.size=0):s.toList=[]:=by
 rw [ByteArray.toList_eq];apply List.eq_nil_of_length_eq_zero;rw [len_data];exact h
theorem cons_toList {s:ByteArray}(h:s.size≠0):s.toList.isEmpty=false:=by
 rw [List.isEmpty_eq_false_iff,ByteArray.toList_eq];intro e;apply h;rw [← len_data,e];rfl
set_option maxHeartbeats 400000 in
theorem isName_any (s:ByteArray)(first:Int)(w:World)(hs:s.size≤maxLen) :
  Calls Tryz.prog 137 #[.string s,.int .i64 first] w fun e w'=>e=.returned (.bool (isNm first s.data.toList))∧Below w.heap.size w w':=by
 unfold maxLen at hs
 have hsz:s.data.toList.length=s.size:=len_data s
 by_cases h0:s.size=0
 ·have he1:=nil_toList h0
  have he2:s.toList.isEmpty=true:=by rw [he1];rfl
  have HR:=Lib.hid (show isNm first s.data.toList=false by rw [← ByteArray.toList_eq,he1];rfl)
  clear he1 h0 hsz
  go_enter Tryz.func137,Tryz.ntmps137
  go_wp2
  go_ret
  exact ⟨ret_bool HR.out.symm,Below.refl _ _⟩
 ·have he2:=cons_toList h0
  by_cases h12:12 < s.size
  ·have HR:=Lib.hid (show isNm first s.data.toList=false from isNm_long (by omega))
   clear hsz
   go_enter Tryz.func137,Tryz.ntmps137
   go_wp2
   go_ret
   exact ⟨ret_bool HR.out.symm,Below.refl _ _⟩
  ·have HSZ:=Lib.hid hsz;clear hsz
   go_enter Tryz.func137,Tryz.ntmps137
   go_wp2
   go_loopw [] (fun wr=>∃ pos:Nat,wr.heap[w.heap.size]?=some (.stringIter s pos)∧pos≤s.size∧Below w.heap.size w wr∧Hid (∀ (j:Nat) (h:j < s.size),j < pos→kb s[j]≠0)∧Hid (∀ (h:0 < s.size),0 < pos→kb s[0]=first)) (fun wr=>s.size - wr.iterPos w.heap.size)
   case atStart=>exact ⟨0,World.iter_heap w s 0,by omega,(Below.refl _ _).alloc (Nat.le_refl _) _,fun j h h2=>by omega,fun h h2=>by omega⟩
   case round =>
    obtain ⟨pos,hit,hle,hbw,HA,HF⟩:=hrel
    have hpos0:=Lib.hid (iterPos_of hit)
    by_cases hp:pos < s.size
    ·by_cases ha:(s[pos]'hp).toNat < 128
     ·have hnx:∀ ty,(Instr.next (.pointer (some ⟨w.heap.size,0,none⟩)) true ty).run Tryz.prog wr=_:=fun ty=>Lib.run_next_ascii_at wr w.heap.size s pos ty hit hp ha
      have hit2:=Lib.iterAt_heap wr w.heap.size s pos (pos+1) hit
      have hbw2:=Lib.below_iterAt hbw (k:=w.heap.size) (Nat.le_refl _) s (pos+1)
      obtain ⟨W1,hW1⟩:∃ W1,W1=wr.iterAt w.heap.size s (pos+1):=⟨_,rfl⟩
      rw [← hW1] at hnx hit2 hbw2
      clear hW1 hit hbw
      by_cases hk0:kindI ((s[pos]'hp).toNat:Int)=0
      ·have HR:=Lib.hid (show isNm first s.data.toList=false from isNm_bad pos (by rw [len_data];exact hp) hk0)
       clear hpos0 HA HF
       go_wp2_with (go_at_call 133;refine (kindOf_any _ _).mono ?_;rintro e w' ⟨rfl,rfl⟩)
       go_ret
       exact ⟨ret_bool HR.out.symm,hbw2⟩
      ·have hk1:(kindI ((s[pos]'hp).toNat:Int) == 0)=false:=by simpa using hk0
       have HK:=Lib.hid hk0
       clear hk0
       have HA2:Hid (∀ (j:Nat) (h:j < s.size),j < pos+1→kb s[j]≠0):=fun j h hj=>by
        by_cases e:j=pos
        ·subst e;exact HK.out
        ·exact HA.out j h (by omega)
       clear HA HK
       by_cases hp0:pos=0
       ·by_cases hf:kindI ((s[pos]'hp).toNat:Int)=first
        ·have hf1:(kindI ((s[pos]'hp).toNat:Int) != first)=false:=by simp [hf]
         have HF2:Hid (∀ (h:0 < s.size),0 < pos+1→kb s[0]=first):=fun h _=>by subst hp0;exact hf
         have h00:((pos:Int) == 0)=true:=by simp [hp0]
         have HP:=Lib.hid hp0
         clear hf HF hp0
         go_wp2_with (go_at_call 133;refine (kindOf_any _ _).mono ?_;rintro e w' ⟨rfl,rfl⟩)
         go_roundw
         case rel=>exact ⟨pos+1,hit2,by omega,hbw2,HA2,HF2⟩
         case measure=>rw [iterPos_of hit2,hpos0.out];omega
        ·have hf1:(kindI ((s[pos]'hp).toNat:Int) != first)=true:=by simpa using hf
         have HR:=Lib.hid (show isNm first s.data.toList=false from isNm_first (by rw [len_data];omega) (by subst hp0;exact hf))
         have h00:((pos:Int) == 0)=true:=by simp [hp0]
         clear hf HF hp0
         go_wp2_with (go_at_call 133;refine (kindOf_any _ _).mono ?_;rintro e w' ⟨rfl,rfl⟩)
         go_ret
         exact ⟨ret_bool HR.out.symm,hbw2⟩
       ·have h00:((pos:Int) == 0)=false:=by simp;omega
        have HF2:Hid (∀ (h:0 < s.size),0 < pos+1→kb s[0]=first):=fun h _=>HF.out h (by omega)
        clear HF hp0
        go_wp2_with (go_at_call 133;refine (kindOf_any _ _).mono ?_;rintro e w' ⟨rfl,rfl⟩)
        go_roundw
        case rel=>exact ⟨pos+1,hit2,by omega,hbw2,HA2,HF2⟩
        case measure=>rw [iterPos_of hit2,hpos0.out];omega
     ·have hd:=decode_hi s pos hp (by omega)
      have hk0:kindI ((Utf8.decode s pos).1:Int)=0:=kindI_hi _ (by omega)
      have hnx:∀ ty,(Instr.next (.pointer (some ⟨w.heap.size,0,none⟩)) true ty).run Tryz.prog wr=_:=fun ty=>Lib.run_next_any_at wr w.heap.size s pos ty hit hp
      have HR:=Lib.hid (show isNm first s.data.toList=false from isNm_bad pos (by rw [len_data];exact hp) (kindI_hi _ (by show 128≤(((s[pos]'hp).toNat:Nat):Int);omega)))
      have hbw2:=Lib.below_iterAt hbw (k:=w.heap.size) (Nat.le_refl _) s (pos+(Utf8.decode s pos).2)
      obtain ⟨W1,hW1⟩:∃ W1,W1=wr.iterAt w.heap.size s (pos+(Utf8.decode s pos).2):=⟨_,rfl⟩
      rw [← hW1] at hnx hbw2
      clear hW1 hit hbw hpos0 HA HF
      go_wp2_with (go_at_call 133;refine (kindOf_any _ _).mono ?_;rintro e w' ⟨rfl,rfl⟩)
      go_ret
      exact ⟨ret_bool HR.out.symm,hbw2⟩
    ·have hnx:∀ ty,(Instr.next (.pointer (some ⟨w.heap.size,0,none⟩)) true ty).run Tryz.prog wr=_:=fun ty=>Lib.run_next_end_at wr w.heap.size s pos ty hit hp
     clear hit hpos0
     go_wp2
     go_ret
     obtain rfl:pos=s.size:=by omega
     have hsz:=HSZ.out
     exact ⟨ret_bool (isNm_true (by omega) (by omega) (HF.out (by omega) (by omega)) (fun j h=>HA.out j (by omega) (by omega))).symm,hbw⟩
end Go.Proofs.YtpjabnemkmdobaaGreatDoor
namespace Go.Proofs.YtpjabnemkmdobaaGreatDoor
open Go.RowKit
def Src (w:World)(b:Nat)(s:ByteArray)(p q:Int):Prop:=w.heap[b]?=some (.cells #[.string s,.int .i64 p,.int .i64 q] 115 (0,0))
section
variable {w w':World} {b:Nat} {s:ByteArray} {p q:Int}
theorem Src.lt (h:Src w b s p q):b < w.heap.size:=(Array.getElem?_eq_some_iff.1 h).1
theorem Src.c0 (h:Src w b s p q):w.cell? ⟨b,0,none⟩=some (.string s):=cell_of_row w b 0 _ 115 (0,0) h
theorem Src.c1 (h:Src w b s p q):w.cell? ⟨b,1,none⟩=some (.int .i64 p):=cell_of_row w b 1 _ 115 (0,0) h
theorem Src.c2 (h:Src w b s p q):w.cell? ⟨b,2,none⟩=some (.int .i64 q):=cell_of_row w b 2 _ 115 (0,0) h
theorem Src.fr (h:Src w b s p q)(i:Nat):w.frozen? ⟨b,i,none⟩=false:=by
 unfold Src at h;simp [World.frozen?,h]
theorem Src.kept (h:Src w b s p q){row:Option Nat}(hg:w.grownBy w' row)(hne:some b≠row):Src w' b s p q:=(hg.block b h.lt hne).trans h
theorem Src.below (h:Src w b s p q){B:Nat}(hg:Below B w w')(hb:b < B):Src w' b s p q:=(hg.block b hb).trans h
theorem Src.drewN (h:Src w b s p q)(n:Nat):Src (w.drewN n) b s p q:=h
theorem Src.set1 (h:Src w b s p q)(x:Int):Src (w.setCell ⟨b,1,none⟩ (.int .i64 x)) b s x q:=by
 unfold Src at h ⊢;simp [World.setCell,Array.getElem?_modify,h]
theorem Src.set2 (h:Src w b s p q)(x:Int):Src (w.setCell ⟨b,2,none⟩ (.int .i64 x)) b s p x:=by
 unfold Src at h ⊢;simp [World.setCell,Array.getElem?_modify,h]
theorem grown_set (w:World)(p:Addr)(v:Value):w.grownBy (w.setCell p v) (some p.block) :=
 ⟨rfl,rfl,rfl,by simp [World.setCell],fun k _ hk=>Below.heap_setCell w p v k (fun e=>hk (by rw [e]))⟩
theorem grown_drewN (w:World)(n:Nat)(row:Option Nat):w.grownBy (w.drewN n) row:=⟨rfl,rfl,rfl,Nat.le_refl _,fun _ _ _=>rfl⟩
theorem grown_trans {a c d:World}{row:Option Nat}(h:a.grownBy c row)(k:c.grownBy d row):a.grownBy d row :=
 ⟨k.os.trans h.os,k.tape.trans h.tape,k.output.trans h.output,Nat.le_trans h.size k.size,fun i hi hr=>(k.block i (Nat.lt_of_lt_of_le hi h.size) hr).trans (h.block i hi hr)⟩
theorem grown_below {a c:World}(h:Below a.heap.size a c)(row:Option Nat):a.grownBy c row:=⟨h.os,h.tape,h.output,h.size,fun k hk _=>h.block k hk⟩
end
def Moved (w w':World)(b:Nat)(s:ByteArray)(p q:Int):Prop:=Src w' b s p q∧w.grownBy w' (some b)
theorem Moved.mk' {w w':World}{b:Nat}{s:ByteArray}{p q:Int}(h:Src w' b s p q)(g:w.grownBy w' (some b)):Moved w w' b s p q:=⟨h,g⟩
set_option maxHeartbeats 400000 in
theorem take_any (b:Nat)(s:ByteArray)(p n:Nat)(q:Int)(w:World)(hS:Src w b s p q)(hs:s.size≤30000)(hpn:p+n≤s.size) :
  Calls Tryz.prog 132 #[.pointer (some ⟨b,0,none⟩),.int .i64 n] w fun e w'=>e=.returned (.string (s.extract p (p+n)))∧Moved w w' b s ((p+n:Nat):Int) q:=by
 have h0:=hS.c0
 have h1:=hS.c1
 have hf1:=hS.fr 1
 have HS:=Lib.hid hS
 clear hS
 go_enter Tryz.func132,Tryz.ntmps132
 go_wp2
 go_quiet (fail)
 go_wp2
 go_ret
 refine ⟨rfl,Moved.mk' ?_ (grown_trans (grown_drewN w nq _) (grown_set _ ⟨b,1,none⟩ _))⟩
 have:=(HS.out.drewN nq).set1 ((p:Int)+n)
 rw [Int.natCast_add]
 exact this
theorem byte_lt (c:UInt8):(c.toNat:Int) < 256∧0≤(c.toNat:Int):=by have:=c.toNat_lt;omega
theorem w32b (c:UInt8):wrap32 (c.toNat:Int)=(c.toNat:Int):=IntWalk.wrap32_in _ (by have:=byte_lt c;omega)
theorem get_drop (s:ByteArray)(p j:Nat)(h:p+j < s.size):(s.data.toList.drop p)[j]'(by rw [List.length_drop,len_data];omega)=s[p+j]:=by
 rw [List.getElem_drop];rfl
theorem wordLen_at (s:ByteArray)(p m:Nat)(hp:p≤m)(hm:m≤s.size)(h1:∀ (j:Nat) (h:j < s.size),p≤j→j < m→kb s[j]≠0)(h2:∀ h:m < s.size,kb s[m]=0) :
  p+wordLen (s.data.toList.drop p)=m:=by
 obtain ⟨k,rfl⟩:∃ k,m=p+k:=⟨m - p,by omega⟩
 rw [wordLen_eq (s.data.toList.drop p) k (by rw [List.length_drop,len_data];omega) (fun j h hj=>by rw [List.length_drop,len_data] at h;rw [get_drop s p j (by omega)];exact h1 _ _ (by omega) (by omega)) (fun h=>by rw [List.length_drop,len_data] at h;rw [get_drop s p k (by omega)];exact h2 _)]
set_option maxHeartbeats 400000 in
theorem word_any (b:Nat)(s:ByteArray)(p:Nat)(q:Int)(w:World)(hS:Src w b s p q)(hs:s.size≤30000)(hp:p≤s.size) :
  Calls Tryz.prog 110 #[.pointer (some ⟨b,0,none⟩)] w fun e w'=>e=.returned (.string (s.extract p (p+wordLen (s.data.toList.drop p))))∧Moved w w' b s ((p+wordLen (s.data.toList.drop p):Nat):Int) q:=by
 have h0:=hS.c0
 have h1:=hS.c1
 have HS:=Lib.hid hS
 clear hS
 go_enter Tryz.func110,Tryz.ntmps110
 go_wp2
 go_loop [3] (fun i=>∃ m:Nat,p≤m∧m≤s.size∧i=.int .i64 (m:Int)∧Hid (∀ (j:Nat) (h:j < s.size),p≤j→j < m→kb s[j]≠0)) (fun i=>s.size - (intOf i).toNat)
 case atStart=>exact ⟨p,by omega,hp,rfl,fun j h hj=>by omega⟩
 case round =>
  obtain ⟨m,hpm,hk,rfl,HA⟩:=hrel
  have HT:Hid (∀ w:World,Src w b s p q→Calls Tryz.prog 132 #[.pointer (some ⟨b,0,none⟩),.int .i64 ((m:Int) - p)] w fun e w'=>e=.returned (.string (s.extract p m))∧Moved w w' b s (m:Int) q):=fun w h=>by
   have:=take_any b s p (m - p) q w h hs (by omega)
   rw [show p+(m - p)=m from by omega,show ((m - p:Nat):Int)=(m:Int) - p from by omega] at this
   exact this
  by_cases hlt:m < s.size
  ·have hw:=w32b (s[m]'hlt)
   by_cases hk0:kindI ((s[m]'hlt).toNat:Int)=0
   ·have HW:=Lib.hid (wordLen_at s p m hpm hk HA.out (fun h=>hk0))
    clear HA
    go_wp2_with (first | (go_at_call 133;refine (kindOf_any _ _).mono ?_;rintro e w' ⟨rfl,rfl⟩) | (go_at_call 132;refine (HT.out _ HS.out).mono ?_;rintro e w' ⟨rfl,HM⟩))
    go_ret
    rw [HW.out]
    exact ⟨rfl,HM⟩
   ·have hk1:(kindI ((s[m]'hlt).toNat:Int) != 0)=true:=by simpa using hk0
    have HA2:Hid (∀ (j:Nat) (h:j < s.size),p≤j→j < m+1→kb s[j]≠0):=fun j h hp hj=>by
     by_cases e:j=m
     ·subst e;exact hk0
     ·exact HA.out j h hp (by omega)
    clear HA hk0
    go_wp2_with (first | (go_at_call 133;refine (kindOf_any _ _).mono ?_;rintro e w' ⟨rfl,rfl⟩))
    go_round
    case rel=>exact ⟨m+1,by omega,by omega,by go_num,HA2⟩
    case measure=>simp [intOf];omega
  ·have HW:=Lib.hid (wordLen_at s p m hpm hk HA.out (fun h=>absurd h hlt))
   clear HA
   go_wp2_with (first | (go_at_call 133;refine (kindOf_any _ _).mono ?_;rintro e w' ⟨rfl,rfl⟩) | (go_at_call 132;refine (HT.out _ HS.out).mono ?_;rintro e w' ⟨rfl,HM⟩))
   go_ret
   rw [HW.out]
   exact ⟨rfl,HM⟩
end Go.Proofs.YtpjabnemkmdobaaGreatDoor
namespace Go.Proofs.YtpjabnemkmdobaaGreatDoor
open Go.ChangeShapes Go.WideShapes Go.Deep Go.RowKit
theorem add_off (b off n:Nat):(⟨b,off,none⟩:Addr).add n=⟨b,off+n,none⟩:=by
 unfold Addr.add
 split
 ·rename_i h;subst h;rfl
 ·rfl
theorem list_of {α:Type}(n:Nat)(P:Nat→α→Prop)(h:∀ i,i < n→∃ a,P i a):∃ l:List α,l.length=n∧∀ i a,l[i]?=some a→P i a:=by
 induction n with
 | zero=>exact ⟨[],rfl,fun i a h=>by simp at h⟩
 | succ n ih =>
  obtain ⟨l,hl,hp⟩:=ih fun i hi=>h i (by omega)
  obtain ⟨a,ha⟩:=h n (by omega)
  refine ⟨l++[a],by simp [hl],fun i b hb=>?_⟩
  by_cases hi:i < n
  ·rw [List.getElem?_append_left (by omega)] at hb;exact hp i b hb
  ·rw [List.getElem?_append_right (by omega)] at hb
   have:i=n:=by
    have:=(List.getElem?_eq_some_iff.1 hb).1
    simp at this;omega
   subst this
   rw [hl] at hb
   simp at hb
   subst hb;exact ha
section
variable {H:Type} {enc:TypeId × Value→H} {W:World} {sp:Nat→Bool} {held:Bool}
theorem plain_of {a:Addr}{v:Value}(h:W.cell? a=some v):∃ b off,a=⟨b,off,none⟩∧b < W.heap.size:=by
 obtain ⟨b,off,spot⟩:=a
 unfold World.cell? at h
 split at h
 ·rename_i hs
  split at h
  ·cases h
  ·rename_i h2
   obtain rfl:spot=none:=by simpa using h2
   exact ⟨b,off,rfl,(Array.getElem?_eq_some_iff.1 hs).1⟩
 ·cases h
theorem okS_of {s:ByteArray}(h:s.size≤maxLen):okS s.data.toList:=by
 unfold okS;rw [len_data];exact h
theorem add_zero (a:Addr):a.add 0=a:=by unfold Addr.add;rw [if_pos rfl]
theorem addr_of {a:Addr}{k:Nat}{cs:List Value}(h:W.cells? 0 a k=some cs)(hk:0 < k):∃ b off,a=⟨b,off,none⟩∧b < W.heap.size:=by
 obtain ⟨_,hl,hat⟩:=World.cells?_some h
 have h0:=hat 0 hk
 rw [add_zero,List.getElem?_eq_getElem (by omega)] at h0
 exact plain_of h0
theorem cells_at {b off k:Nat}{cs:List Value}(h:W.cells? 0 ⟨b,off,none⟩ k=some cs):cs.length=k∧CellsAt W b off cs:=by
 obtain ⟨_,hl,hat⟩:=World.cells?_some h
 refine ⟨hl,fun i v hi=>?_⟩
 have hlt:=(List.getElem?_eq_some_iff.1 hi).1
 have:=hat i (by omega)
 rw [add_off] at this
 rw [this];exact hi
theorem slice_of {t e:TypeId}{k f:Nat}{cs:List Value}{x:DataW H × List MemPlace}(ht:Tryz.prog.underlying t=some (.slice e))(hk:Tryz.prog.cellsOf e=k)(h:DataW.trod enc Tryz.prog W 0 sp held f t cs=some x) :
  cs=[.slice none 0 0]∨∃ a len cap n,f=n+1∧cs=[.slice (some a) len cap]∧len≤cap∧cap≤maxLen∧∀ i,i < len→∃ cs' y,W.cells? 0 (a.add (i*k)) k=some cs'∧DataW.trod enc Tryz.prog W 0 sp held n e cs'=some y:=by
 rcases DataW.trod_slice ht h with ⟨rfl,_⟩ | ⟨a,len,cap,elems,rest,n,hf,rfl,_,_,hl,hm,hlen,hel,_,_⟩
 ·exact .inl rfl
 ·refine .inr ⟨a,len,cap,n,hf,rfl,hl,hm,fun i hi=>?_⟩
  have:=hel i hi
  rw [hk,List.getElem?_eq_getElem (by omega)] at this
  obtain ⟨cs',h1,h2⟩:=Option.bind_eq_some_iff.1 this
  exact ⟨cs',_,h1,h2⟩
theorem rows_of {α:Type}{t e:TypeId}{k f:Nat}{cs:List Value}{x:DataW H × List MemPlace}(ht:Tryz.prog.underlying t=some (.slice e))(hk:Tryz.prog.cellsOf e=k)(hk0:0 < k)(h:DataW.trod enc Tryz.prog W 0 sp held f t cs=some x)
  (P:List Value→α→Prop) (hP:∀ n cs' y,n < f→cs'.length=k→DataW.trod enc Tryz.prog W 0 sp held n e cs'=some y→∃ a,P cs' a) :
  ∃ A c,∃ L:List α,cs=[.slice A L.length c]∧L.length≤c∧c≤maxLen∧(L≠[]→∃ b off,A=some ⟨b,off,none⟩∧b < W.heap.size∧∀ j l,L[j]?=some l→∃ cs',cs'.length=k∧CellsAt W b (off+j*k) cs'∧P cs' l):=by
 rcases slice_of ht hk h with rfl | ⟨a,len,cap,n,hf,rfl,hl,hm,hi⟩
 ·exact ⟨none,0,[],rfl,Nat.le_refl _,Nat.zero_le _,fun h=>absurd rfl h⟩
 ·by_cases h0:len=0
  ·subst h0
   exact ⟨some a,cap,[],rfl,hl,hm,fun h=>absurd rfl h⟩
  obtain ⟨cs0,_,hcs0,_⟩:=hi 0 (by omega)
  rw [Nat.zero_mul,add_zero] at hcs0
  obtain ⟨b,off,rfl,hlt⟩:=addr_of hcs0 hk0
  obtain ⟨L,hL,hp⟩:=list_of len (fun i (l:α)=>∃ cs',cs'.length=k∧CellsAt W b (off+i*k) cs'∧P cs' l) fun i hin=>by
   obtain ⟨cs',y,hcs,htr⟩:=hi i (by omega)
   rw [add_off] at hcs
   have hc:=cells_at hcs
   obtain ⟨l,hl⟩:=hP n cs' y (by omega) hc.1 htr
   exact ⟨l,cs',hc.1,hc.2,hl⟩
  subst hL
  exact ⟨some ⟨b,off,none⟩,cap,L,rfl,hl,hm,fun _=>⟨b,off,rfl,hlt,hp⟩⟩
theorem open_names {cs:List Value}{x:DataW H × List MemPlace}{f:Nat}(h:DataW.trod enc Tryz.prog W 0 sp held f 23 cs=some x) :
  ∃ A c,∃ L:List (List UInt8),cs=[.slice A L.length c]∧L.length≤c∧c≤maxLen∧NamesAt (fun _=>True) W A L∧∀ s∈L,okS s:=by
 obtain ⟨A,c,L,e,hl,hm,hr⟩:=rows_of Tryz.underlying23 (k:=1) (by kernel_rfl) (by omega) h (fun cs' (s:List UInt8)=>okS s∧cs'=[.string (strB s)]) fun n cs' y _ _ ht=>by
  obtain ⟨s,e,_,w1⟩:=DataW.trod_string Tryz.underlying9 ht
  exact ⟨s.data.toList,okS_of w1,e⟩
 refine ⟨A,c,L,e,hl,hm,fun h0=>?_,fun s hs=>?_⟩
 ·obtain ⟨b,off,ea,hlt,hp⟩:=hr h0
  refine ⟨b,off,ea,trivial,hlt,fun j l hj=>?_⟩
  obtain ⟨cs',_,hc,_,rfl⟩:=hp j l hj
  have:=hc 0 _ rfl
  simpa using this
 ·obtain ⟨b,off,ea,hlt,hp⟩:=hr (List.ne_nil_of_mem hs)
  obtain ⟨i,hil,rfl⟩:=List.getElem_of_mem hs
  obtain ⟨_,_,_,h,_⟩:=hp i _ (List.getElem?_eq_getElem hil)
  exact h
theorem okN_of {n:Int}(h:(Lit.int .i64 n).wf=true):okN n:=by
 simp only [Lit.wf,Bool.and_eq_true,decide_eq_true_eq] at h
 exact h
theorem int_of {t:TypeId}{f:Nat}{cs:List Value}{x:DataW H × List MemPlace}(ht:Tryz.prog.underlying t=some (.int .i64))(h:DataW.trod enc Tryz.prog W 0 sp held f t cs=some x):∃ n,cs=[.int .i64 n]∧okN n:=by
 obtain ⟨n,e,_,w⟩:=DataW.trod_int ht h
 exact ⟨n,e,okN_of w⟩
theorem str_of {f:Nat}{cs:List Value}{x:DataW H × List MemPlace}(h:DataW.trod enc Tryz.prog W 0 sp held f 9 cs=some x):∃ s,cs=[.string (strB s)]∧okS s:=by
 obtain ⟨s,e,_,w⟩:=DataW.trod_string Tryz.underlying9 h
 exact ⟨s.data.toList,e,okS_of w⟩
def ArmIs (W:World)(cs:List Value)(o:List UInt8 × List (List UInt8))(e:Ex):Prop :=
 ∃ A c cs7,cs=.string (strB o.1) :: .slice A o.2.length c :: cs7∧okS o.1∧(∀ x∈o.2,okS x)∧o.2.length≤c∧c≤maxLen∧cs7.length=7∧NamesAt (fun _=>True) W A o.2∧RepE (fun _=>True) W e cs7
set_option maxRecDepth 100000 in
theorem arm_step (f:Nat)(ih:∀ n,n < f→∀ {cs:List Value} {x:DataW H × List MemPlace},cs.length=7→DataW.trod enc Tryz.prog W 0 sp held n 27 cs=some x→∃ e,RepE (fun _=>True) W e cs)
  {cs:List Value} {x:DataW H × List MemPlace} (h9:cs.length=9) (h:DataW.trod enc Tryz.prog W 0 sp held f 57 cs=some x):∃ oe:(List UInt8 × List (List UInt8)) × Ex,ArmIs W cs oe.1 oe.2:=by
 obtain ⟨xs,m,hm,_,hl,hxl,hf⟩:=DataW.trod_struct Tryz.underlying57 h
 have hxl3:xs.length=3:=hxl
 have k9:Tryz.prog.cellsOf 9=1:=by kernel_rfl
 have kN:Tryz.prog.cellsOf 23=1:=by kernel_rfl
 have kE:Tryz.prog.cellsOf 27=7:=by kernel_rfl
 match cs,h9,xs,hxl3 with
 | [c0,c1,d0,d1,d2,d3,d4,d5,d6],_,[y0,y1,y2],_ =>
  have f0:DataW.trod enc Tryz.prog W 0 sp held m 9 [c0]=some y0:=by have:=hf 0 _ rfl;simpa [k9] using this
  have f1:DataW.trod enc Tryz.prog W 0 sp held m 23 [c1]=some y1:=by have:=hf 1 _ rfl;simpa [kN] using this
  have f2:DataW.trod enc Tryz.prog W 0 sp held m 27 [d0,d1,d2,d3,d4,d5,d6]=some y2:=by have:=hf 2 _ rfl;simpa [kE] using this
  obtain ⟨op,e0,w0⟩:=str_of f0
  obtain ⟨A,c,L,e1,hl1,hl2,hn,hL⟩:=open_names f1
  obtain ⟨e,he⟩:=ih m (by omega) rfl f2
  simp only [List.cons.injEq,and_true] at e0 e1
  subst e0;subst e1
  exact ⟨((op,L),e),A,c,_,rfl,w0,hL,hl1,hl2,rfl,hn,he⟩
set_option maxRecDepth 100000 in
theorem open_ex (f:Nat):∀ {cs:List Value} {x:DataW H × List MemPlace},cs.length=7→DataW.trod enc Tryz.prog W 0 sp held f 27 cs=some x→∃ e,RepE (fun _=>True) W e cs:=by
 induction f using Nat.strongRecOn with
 | ind f ih =>
  intro cs x h7 h
  obtain ⟨xs,m,hm,_,hl,hxl,hf⟩:=DataW.trod_struct Tryz.underlying27 h
  have hxl7:xs.length=7:=hxl
  have k0:Tryz.prog.cellsOf 22=1:=by kernel_rfl
  have k3:Tryz.prog.cellsOf 3=1:=by kernel_rfl
  have k9:Tryz.prog.cellsOf 9=1:=by kernel_rfl
  have kN:Tryz.prog.cellsOf 23=1:=by kernel_rfl
  have kL:Tryz.prog.cellsOf 24=1:=by kernel_rfl
  have kA:Tryz.prog.cellsOf 25=1:=by kernel_rfl
  match cs,h7,xs,hxl7 with
  | [c0,c1,c2,c3,c4,c5,c6],_,[y0,y1,y2,y3,y4,y5,y6],_ =>
   have f0:DataW.trod enc Tryz.prog W 0 sp held m 22 [c0]=some y0:=by have:=hf 0 _ rfl;simpa [k0] using this
   have f1:DataW.trod enc Tryz.prog W 0 sp held m 3 [c1]=some y1:=by have:=hf 1 _ rfl;simpa [k3] using this
   have f2:DataW.trod enc Tryz.prog W 0 sp held m 9 [c2]=some y2:=by have:=hf 2 _ rfl;simpa [k9] using this
   have f3:DataW.trod enc Tryz.prog W 0 sp held m 9 [c3]=some y3:=by have:=hf 3 _ rfl;simpa [k9] using this
   have f4:DataW.trod enc Tryz.prog W 0 sp held m 23 [c4]=some y4:=by have:=hf 4 _ rfl;simpa [kN] using this
   have f5:DataW.trod enc Tryz.prog W 0 sp held m 24 [c5]=some y5:=by have:=hf 5 _ rfl;simpa [kL] using this
   have f6:DataW.trod enc Tryz.prog W 0 sp held m 25 [c6]=some y6:=by have:=hf 6 _ rfl;simpa [kA] using this
   obtain ⟨k,e0,w0⟩:=int_of Tryz.underlying22 f0
   obtain ⟨n,e1,w1⟩:=int_of Tryz.underlying3 f1
   obtain ⟨s,e2,w2⟩:=str_of f2
   obtain ⟨t,e3,w3⟩:=str_of f3
   obtain ⟨An,cn,ns,e4,hn1,hn2,hn,hN⟩:=open_names f4
   obtain ⟨Al,cl,l,e5,hl1,hl2,hL⟩:=rows_of Tryz.underlying24 (k:=7) (by kernel_rfl) (by omega) f5 (fun cs' e=>RepE (fun _=>True) W e cs') fun n cs' y hlt h7 ht=>ih n (by omega) h7 ht
   obtain ⟨Aa,ca,arms,e6,ha1,ha2,hA⟩:=rows_of Tryz.underlying25 (k:=9) (by kernel_rfl) (by omega) f6 (fun cs' (oe:(List UInt8 × List (List UInt8)) × Ex)=>ArmIs W cs' oe.1 oe.2) fun n cs' y hlt h9 ht=>arm_step n (fun n' hn' _ _ h7 h=>ih n' (by omega) h7 h) h9 ht
   simp only [List.cons.injEq,and_true] at e0 e1 e2 e3 e4 e5 e6
   subst e0;subst e1;subst e2;subst e3;subst e4;subst e5;subst e6
   refine ⟨.mk k n s t ns l (arms.map (·.1)) (arms.map (·.2)),An,cn,Al,cl,Aa,ca,?_,?_,hn,fun h0=>?_,fun h0=>?_,by simp⟩
   ·simp [exCells]
   ·exact ⟨w0,w1,w2,w3,hN,⟨hn1,hn2⟩,⟨hl1,hl2⟩,⟨by simpa using ha1,ha2⟩⟩
   ·obtain ⟨b,off,e,hlt,hr⟩:=hL h0
    exact ⟨b,off,e,trivial,hlt,RepL.of hr⟩
   ·obtain ⟨b,off,e,hlt,hr⟩:=hA (by simpa using h0)
    refine ⟨b,off,e,trivial,hlt,RepA.of (by simp) fun j e hj=>?_⟩
    rw [List.getElem?_map,Option.map_eq_some_iff] at hj
    obtain ⟨oe,ho,rfl⟩:=hj
    obtain ⟨cs',_,hc,A,c,cs7,rfl,h1,h2,h3,h4,h7,h8,h9⟩:=hr j oe ho
    exact ⟨oe.1,by rw [List.getElem?_map,ho];rfl,A,c,cs7,h1,h2,h3,h4,h7,hc,h8,h9⟩
theorem open_expr {v:Value}{d:DataW H}{p:List MemPlace}(h:DataW.Trod enc Tryz.prog W 0 sp held 27 v d p):∃ e,v.cells.toList.length=7∧RepE (fun _=>True) W e v.cells.toList:=by
 obtain ⟨fuel,hf⟩:=h
 obtain ⟨_,_,_,_,hl,_,_⟩:=DataW.trod_struct Tryz.underlying27 hf
 have h7:v.cells.toList.length=7:=hl.trans (by kernel_rfl)
 obtain ⟨e,he⟩:=open_ex fuel h7 hf
 exact ⟨e,h7,he⟩
end
end Go.Proofs.YtpjabnemkmdobaaGreatDoor
namespace Go.Proofs.YtpjabnemkmdobaaGreatDoor
open Go.RowKit
theorem strB_size (s:List UInt8):(strB s).size=s.length:=by rw [← len_data];rfl
def longP (L:List (List UInt8)):Bool:=decide (50 < L.length) || L.any (fun s=>decide (100 < s.length))
set_option maxRecDepth 100000 in
set_option maxHeartbeats 1000000 in
theorem long_any (P:Nat→Prop)(A:Option Addr)(c:Nat)(L:List (List UInt8))(w:World)(hL:NamesAt P w A L)(hl:L.length≤maxLen) :
  Calls Tryz.prog 23 #[.slice A L.length c] w fun e w'=>e=.returned (.bool (longP L))∧w=w':=by
 have hl2:(L.length:Int)≤9223372036854775807:=by unfold maxLen at hl;omega
 clear hl
 by_cases h50:50 < L.length
 ·have h50i:(50:Int) < (L.length:Int):=by omega
  have HR:=Lib.hid (show longP L=true by unfold longP;rw [decide_eq_true h50];rfl)
  clear hL
  go_enter Tryz.func23,Tryz.ntmps23
  go_wp2_with fail
  go_ret
  exact ⟨by rw [HR.out];rfl,rfl⟩
 ·have h51:(L.length:Int)≤50:=by omega
  have HL:=Lib.hid hL
  clear hL h50
  go_enter Tryz.func23,Tryz.ntmps23
  go_wp2_with fail
  go_loop [3] (fun i=>∃ k:Nat,k≤L.length∧i=.int .i64 (k:Int)∧Hid (∀ (j:Nat) (h:j < L.length),j < k→L[j].length≤100)) (fun i=>L.length - (intOf i).toNat)
  case atStart=>exact ⟨0,by omega,rfl,fun j h h2=>by omega⟩
  case round =>
   obtain ⟨k,hk,rfl,HA⟩:=hrel
   by_cases hkl:k < L.length
   ·obtain ⟨b,off,rfl,_,hlt,hc⟩:=HL.out (List.ne_nil_of_length_pos (by omega))
    have hcell:=hc k L[k] (List.getElem?_eq_getElem hkl)
    clear hc
    obtain ⟨x,hx⟩:∃ x,x=strB L[k]:=⟨_,rfl⟩
    have HX:Hid (x.size=L[k].length):=by show _=_;rw [hx,strB_size]
    rw [← hx] at hcell
    clear hx
    by_cases h1:100 < x.size
    ·have h1i:(100:Int) < (x.size:Int):=by omega
     have HR:=Lib.hid (show longP L=true by
      unfold longP
      rw [Bool.or_eq_true,List.any_eq_true]
      exact .inr ⟨_,List.getElem_mem hkl,by rw [← HX.out];exact decide_eq_true h1⟩)
     go_wp2_with fail
     go_ret
     exact ⟨by rw [HR.out];rfl,rfl⟩
    ·have h1i:(x.size:Int)≤100:=by omega
     have HA2:Hid (∀ (j:Nat) (h:j < L.length),j < k+1→L[j].length≤100):=fun j h hj=>by
      by_cases e:j=k
      ·subst e;rw [← HX.out];omega
      ·exact HA.out j h (by omega)
     clear HA
     go_wp2_with fail
     go_round
     case rel=>exact ⟨k+1,by omega,by go_num,HA2⟩
     case measure=>simp [intOf];omega
   ·have HR:=Lib.hid (show longP L=false by
     unfold longP
     rw [decide_eq_false (by omega),Bool.false_or,Bool.eq_false_iff,ne_eq,List.any_eq_true]
     rintro ⟨s,hs,h⟩
     obtain ⟨j,hj,rfl⟩:=List.getElem_of_mem hs
     have:=HA.out j hj (by omega)
     have:=of_decide_eq_true h
     omega)
    clear HA
    go_wp2_with fail
    go_ret
    exact ⟨by rw [HR.out];rfl,rfl⟩
mutual
def leftP:Ex→Int→Int→Int
 | .mk _ _ s t ns l ops bs,nodes,d =>
  if d < 1∨100 < s.length∨100 < t.length∨longP ns=true∨50 < l.length∨50 < bs.length then -1 else leftA ops bs (leftL l (nodes - 1) (d - 1)) (d - 1)
def leftL:List Ex→Int→Int→Int
 | [],nodes,_=>nodes
 | e :: r,nodes,d=>if nodes < 0 then nodes else leftL r (leftP e nodes d) d
def leftA:List (List UInt8 × List (List UInt8))→List Ex→Int→Int→Int
 | _,[],nodes,_=>nodes
 | [],_ :: _,nodes,_=>nodes
 | o :: q,e :: r,nodes,d=>if nodes < 0 then nodes else if 100 < o.1.length∨longP o.2=true then -1 else leftA q r (leftP e nodes d) d
end
theorem leftL_neg (l:List Ex)(nodes d:Int)(h:nodes < 0):leftL l nodes d=nodes:=by
 cases l with
 | nil=>rfl
 | cons e r=>rw [leftL,if_pos h]
theorem leftA_neg (ops)(l:List Ex)(nodes d:Int)(h:nodes < 0):leftA ops l nodes d=nodes:=by
 cases l with
 | nil=>cases ops <;> rfl
 | cons e r =>
  cases ops with
  | nil=>rfl
  | cons o q=>rw [leftA,if_pos h]
mutual
theorem leftP_le:∀ (e:Ex) (nodes d:Int),0≤nodes→leftP e nodes d≤nodes∧-1≤leftP e nodes d
 | .mk k n s t ns l ops bs,nodes,d,h=>by
  rw [leftP]
  split
  ·omega
  ·have h1:=leftL_le l (nodes - 1) (d - 1) (by omega)
   have h2:=leftA_le ops bs (leftL l (nodes - 1) (d - 1)) (d - 1) h1.2
   omega
theorem leftL_le:∀ (l:List Ex) (nodes d:Int),-1≤nodes→leftL l nodes d≤nodes∧-1≤leftL l nodes d
 | [],nodes,d,h=>by rw [leftL];omega
 | e :: r,nodes,d,h=>by
  rw [leftL]
  split
  ·omega
  ·have h1:=leftP_le e nodes d (by omega)
   have h2:=leftL_le r (leftP e nodes d) d h1.2
   omega
theorem leftA_le:∀ (ops:List (List UInt8 × List (List UInt8))) (l:List Ex) (nodes d:Int),-1≤nodes→leftA ops l nodes d≤nodes∧-1≤leftA ops l nodes d
 | ops,[],nodes,d,h=>by cases ops <;> (rw [leftA];omega)
 | [],e :: r,nodes,d,h=>by rw [leftA];omega
 | o :: q,e :: r,nodes,d,h=>by
  rw [leftA]
  split
  ·omega
  ·split
   ·omega
   ·have h1:=leftP_le e nodes d (by omega)
    have h2:=leftA_le q r (leftP e nodes d) d h1.2
    omega
end
theorem leftL_snoc:∀ (l:List Ex) (e:Ex) (nodes d:Int),leftL (l++[e]) nodes d=if leftL l nodes d < 0 then leftL l nodes d else leftP e (leftL l nodes d) d
 | [],e,nodes,d=>by simp only [List.nil_append,leftL];rfl
 | x :: r,e,nodes,d=>by
  rw [List.cons_append,leftL,leftL]
  by_cases h:nodes < 0
  ·simp only [if_pos h]
  ·simp only [if_neg h]
   exact leftL_snoc r e _ d
theorem leftA_snoc:∀ (q:List (List UInt8 × List (List UInt8))) (l:List Ex) (o:List UInt8 × List (List UInt8)) (e:Ex) (nodes d:Int),q.length=l.length→(∀ x∈q,¬ (100 < x.1.length∨longP x.2=true)) →
  leftA (q++[o]) (l++[e]) nodes d=if leftA q l nodes d < 0 then leftA q l nodes d else if 100 < o.1.length∨longP o.2=true then -1 else leftP e (leftA q l nodes d) d
 | [],[],o,e,nodes,d,_,_=>by simp only [List.nil_append,leftA];rfl
 | [],_ :: _,_,_,_,_,h,_=>by simp at h
 | _ :: _,[],_,_,_,_,h,_=>by simp at h
 | p :: q,x :: r,o,e,nodes,d,hl,hq=>by
  rw [List.cons_append,List.cons_append,leftA,leftA]
  have hp:=hq p (by simp)
  by_cases h:nodes < 0
  ·simp only [if_pos h]
  ·simp only [if_neg h,if_neg hp]
   exact leftA_snoc q r o e _ d (by simpa using hl) fun x hx=>hq x (by simp [hx])
theorem leftA_bad:∀ (q:List (List UInt8 × List (List UInt8))) (l:List Ex) (k:Nat) (o:List UInt8 × List (List UInt8)) (nodes d:Int),q[k]?=some o→q.length=l.length→(∀ j x,j < k→q[j]?=some x→¬ (100 < x.1.length∨longP x.2=true)) →
  (100 < o.1.length∨longP o.2=true)→0≤leftA (q.take k) (l.take k) nodes d→leftA q l nodes d=-1
 | [],l,k,o,nodes,d,h,_,_,_,_=>by simp at h
 | p :: q,[],k,o,nodes,d,_,hl,_,_,_=>by simp at hl
 | p :: q,x :: r,0,o,nodes,d,h,_,_,hb,h0=>by
  simp only [List.getElem?_cons_zero,Option.some.injEq] at h
  subst h
  simp only [List.take_zero,leftA] at h0
  rw [leftA,if_neg (by omega),if_pos hb]
 | p :: q,x :: r,k+1,o,nodes,d,h,hl,hg,hb,h0=>by
  have hp:=hg 0 p (by omega) rfl
  simp only [List.take_succ_cons] at h0
  rw [leftA] at h0 ⊢
  by_cases hn:nodes < 0
  ·rw [if_pos hn] at h0;omega
  ·rw [if_neg hn,if_neg hp] at h0 ⊢
   exact leftA_bad q r k o _ d (by simpa using h) (by simpa using hl) (fun j x hj hx=>hg (j+1) x (by omega) (by simpa using hx)) hb h0
theorem leftL_app:∀ (a b:List Ex) (nodes d:Int),leftL (a++b) nodes d=leftL b (leftL a nodes d) d
 | [],b,nodes,d=>by rw [List.nil_append,leftL]
 | x :: r,b,nodes,d=>by
  rw [List.cons_append,leftL,leftL]
  by_cases h:nodes < 0
  ·simp only [if_pos h];rw [leftL_neg _ _ _ h]
  ·simp only [if_neg h];exact leftL_app r b _ d
theorem leftL_end {l:List Ex}{j:Nat}{nodes d N:Int}(hN:N=leftL (l.take j) nodes d)(h:N < 0∨l.length≤j):N=leftL l nodes d:=by
 rcases h with h | h
 ·have:=leftL_app (l.take j) (l.drop j) nodes d
  rw [List.take_append_drop,← hN,leftL_neg _ _ _ h] at this
  exact this.symm
 ·rw [hN,List.take_of_length_le h]
theorem leftL_step {l:List Ex}{j:Nat}{nodes d N:Int}{e:Ex}(hN:N=leftL (l.take j) nodes d)(h:0≤N)(he:l[j]?=some e):leftP e N d=leftL (l.take (j+1)) nodes d:=by
 have hj:=(List.getElem?_eq_some_iff.1 he).1
 rw [List.take_succ_eq_append_getElem hj,leftL_snoc,← hN,if_neg (by omega)]
 rw [List.getElem?_eq_getElem hj,Option.some.injEq] at he
 rw [he]
def goodArms (q:List (List UInt8 × List (List UInt8)))(j:Nat):Prop:=∀ i x,i < j→q[i]?=some x→¬ (100 < x.1.length∨longP x.2=true)
theorem leftA_app:∀ (q:List (List UInt8 × List (List UInt8))) (l:List Ex) (j:Nat) (nodes d:Int),q.length=l.length→goodArms q j→leftA q l nodes d=leftA (q.drop j) (l.drop j) (leftA (q.take j) (l.take j) nodes d) d
 | [],[],j,nodes,d,_,_=>by simp [leftA]
 | [],_ :: _,_,_,_,h,_=>by simp at h
 | _ :: _,[],_,_,_,h,_=>by simp at h
 | p :: q,x :: r,0,nodes,d,_,_=>by simp [leftA]
 | p :: q,x :: r,j+1,nodes,d,hl,hg=>by
  rw [List.take_succ_cons,List.take_succ_cons,List.drop_succ_cons,List.drop_succ_cons,leftA,leftA]
  have hp:=hg 0 p (by omega) rfl
  by_cases h:nodes < 0
  ·simp only [if_pos h];rw [leftA_neg _ _ _ _ h]
  ·simp only [if_neg h,if_neg hp]
   exact leftA_app q r j _ d (by simpa using hl) fun i x hi hx=>hg (i+1) x (by omega) (by simpa using hx)
theorem leftA_end {q:List (List UInt8 × List (List UInt8))}{l:List Ex}{j:Nat}{nodes d N:Int}(hl:q.length=l.length)(hg:goodArms q j)(hN:N=leftA (q.take j) (l.take j) nodes d)(h:N < 0∨l.length≤j):N=leftA q l nodes d:=by
 rcases h with h | h
 ·have:=leftA_app q l j nodes d hl hg
  rw [← hN,leftA_neg _ _ _ _ h] at this
  exact this.symm
 ·rw [hN,List.take_of_length_le h,List.take_of_length_le (by omega)]
theorem leftA_step {q:List (List UInt8 × List (List UInt8))}{l:List Ex}{j:Nat}{nodes d N:Int}{e:Ex}{o:List UInt8 × List (List UInt8)}(hl:q.length=l.length)(hg:goodArms q j)(hN:N=leftA (q.take j) (l.take j) nodes d)(h:0≤N)(he:l[j]?=some e)(ho:q[j]?=some o)(hb:¬ (100 < o.1.length∨longP o.2=true)) :
  leftP e N d=leftA (q.take (j+1)) (l.take (j+1)) nodes d:=by
 have hj:=(List.getElem?_eq_some_iff.1 he).1
 have hj2:=(List.getElem?_eq_some_iff.1 ho).1
 rw [List.take_succ_eq_append_getElem hj,List.take_succ_eq_append_getElem hj2,leftA_snoc _ _ _ _ _ _ (by simp;omega) (fun x hx=>by
  obtain ⟨i,hi,rfl⟩:=List.getElem_of_mem hx
  rw [List.length_take] at hi
  rw [List.getElem_take]
  exact hg i _ (by omega) (List.getElem?_eq_getElem (by omega))),← hN,if_neg (by omega)]
 rw [List.getElem?_eq_getElem hj,Option.some.injEq] at he
 rw [List.getElem?_eq_getElem hj2,Option.some.injEq] at ho
 rw [he,ho,if_neg hb]
theorem seven {cs:List Value}(h:cs.length=7):∃ v0 v1 v2 v3 v4 v5 v6,cs=[v0,v1,v2,v3,v4,v5,v6]:=by
 match cs,h with
 | [a,b,c,d,e,f,g],_=>exact ⟨a,b,c,d,e,f,g,rfl⟩
theorem leftP_stop {k n:Int}{s t:List UInt8}{ns:List (List UInt8)}{l bs:List Ex}{ops:List (List UInt8 × List (List UInt8))}{nodes d:Int}
  (h:d < 1∨100 < s.length∨100 < t.length∨longP ns=true∨50 < l.length∨50 < bs.length):leftP (.mk k n s t ns l ops bs) nodes d=-1:=by rw [leftP,if_pos h]
theorem leftP_go {k n:Int}{s t:List UInt8}{ns:List (List UInt8)}{l bs:List Ex}{ops:List (List UInt8 × List (List UInt8))}{nodes d:Int}
  (h:¬ (d < 1∨100 < s.length∨100 < t.length∨longP ns=true∨50 < l.length∨50 < bs.length)):leftP (.mk k n s t ns l ops bs) nodes d=leftA ops bs (leftL l (nodes - 1) (d - 1)) (d - 1):=by rw [leftP,if_neg h]
set_option maxRecDepth 100000 in
set_option maxHeartbeats 2000000 in
theorem left_stop (P:Nat→Prop)(k n:Int)(s t:List UInt8)(ns:List (List UInt8))(l bs:List Ex)(nodes d:Int)(An:Option Addr)(cn:Nat)(Al:Option Addr)(cl:Nat)(Aa:Option Addr)(ca:Nat)(w:World)
  (hf:Fits k n s t ns l.length bs.length cn cl ca) (hn:NamesAt P w An ns) (hnodes:0≤nodes∧nodes≤4000) (hd:0≤d∧d≤250)
  (h:d < 1∨100 < s.length∨100 < t.length∨longP ns=true∨50 < l.length∨50 < bs.length) :
  Calls Tryz.prog 11 #[.agg #[.int .i64 k,.int .i64 n,.string (strB s),.string (strB t),.slice An ns.length cn,.slice Al l.length cl,.slice Aa bs.length ca],.int .i64 nodes,.int .i64 d] w fun e w'=>e=.returned (.int .i64 (-1))∧Below w.heap.size w w':=by
 have HS:Hid ((strB s).size=s.length):=strB_size s
 have HT:Hid ((strB t).size=t.length):=strB_size t
 obtain ⟨S,hS⟩:∃ S,S=strB s:=⟨_,rfl⟩
 obtain ⟨T,hT⟩:∃ T,T=strB t:=⟨_,rfl⟩
 rw [← hS] at HS ⊢
 rw [← hT] at HT ⊢
 have HL:∀ b,longP ns=b→Hid (∀ w',NamesAt P w' An ns→Calls Tryz.prog 23 #[.slice An ns.length cn] w' fun e w2=>e=.returned (.bool b)∧w'=w2):=fun b hb w' h'=>by
  have:=long_any P An cn ns w' h' (Nat.le_trans hf.hcn.1 hf.hcn.2);rwa [hb] at this
 have HN:Hid (∀ X,NamesAt P (w.alloc X) An ns):=fun X=>hn.keep (Same.of_below ((Below.refl _ _).alloc (Nat.le_refl _) _))
 obtain ⟨n1,n2⟩:=hnodes
 obtain ⟨d1,d2⟩:=hd
 have hl2:(l.length:Int)≤9223372036854775807:=by have:=hf.hcl;unfold maxLen at this;omega
 have hb2:(bs.length:Int)≤9223372036854775807:=by have:=hf.hca;unfold maxLen at this;omega
 clear hS hT hn hf
 by_cases h1:d < 1
 ·have b1:decide (d < 1)=true:=decide_eq_true h1
  clear h HL HN
  go_enter Tryz.func11,Tryz.ntmps11
  go_wp2_with fail
  go_ret
  exact ⟨rfl,(Below.refl _ _).alloc (Nat.le_refl _) _⟩
 have b1:decide (d < 1)=false:=decide_eq_false h1
 by_cases h2:100 < S.size
 ·have b2:decide ((100:Int) < (S.size:Int))=true:=decide_eq_true (by omega)
  clear h HL HN h1
  go_enter Tryz.func11,Tryz.ntmps11
  go_wp2_with fail
  go_ret
  exact ⟨rfl,(Below.refl _ _).alloc (Nat.le_refl _) _⟩
 have b2:decide ((100:Int) < (S.size:Int))=false:=decide_eq_false (by omega)
 by_cases h3:100 < T.size
 ·have b3:decide ((100:Int) < (T.size:Int))=true:=decide_eq_true (by omega)
  clear h HL HN h1
  go_enter Tryz.func11,Tryz.ntmps11
  go_wp2_with fail
  go_ret
  exact ⟨rfl,(Below.refl _ _).alloc (Nat.le_refl _) _⟩
 have b3:decide ((100:Int) < (T.size:Int))=false:=decide_eq_false (by omega)
 cases h4:longP ns with
 | true =>
  have HL1:=HL true h4
  clear h HL h1 h4
  go_enter Tryz.func11,Tryz.ntmps11
  go_wp2_with (go_at_call 23;refine (HL1.out _ (HN.out _)).mono ?_;rintro e w' ⟨rfl,rfl⟩)
  go_ret
  exact ⟨rfl,(Below.refl _ _).alloc (Nat.le_refl _) _⟩
 | false =>
  have HL1:=HL false h4
  have h5:50 < l.length∨50 < bs.length:=by
   rw [h4] at h;rw [← HS.out,← HT.out] at h
   rcases h with h | h | h | h | h
   ·omega
   ·omega
   ·omega
   ·cases h
   ·exact h
  clear h HL h1 h4
  by_cases h6:50 < l.length
  ·have b6:decide ((50:Int) < (l.length:Int))=true:=decide_eq_true (by omega)
   go_enter Tryz.func11,Tryz.ntmps11
   go_wp2_with (go_at_call 23;refine (HL1.out _ (HN.out _)).mono ?_;rintro e w' ⟨rfl,rfl⟩)
   go_ret
   exact ⟨rfl,(Below.refl _ _).alloc (Nat.le_refl _) _⟩
  ·have b6:decide ((50:Int) < (l.length:Int))=false:=decide_eq_false (by omega)
   have b7:decide ((50:Int) < (bs.length:Int))=true:=decide_eq_true (by omega)
   go_enter Tryz.func11,Tryz.ntmps11
   go_wp2_with (go_at_call 23;refine (HL1.out _ (HN.out _)).mono ?_;rintro e w' ⟨rfl,rfl⟩)
   go_ret
   exact ⟨rfl,(Below.refl _ _).alloc (Nat.le_refl _) _⟩
def LeftSays (P:Nat→Prop)(e:Ex):Prop:=∀ (v0 v1 v2 v3 v4 v5 v6:Value) (nodes d:Int) (w:World),RepE P w e [v0,v1,v2,v3,v4,v5,v6]→0≤nodes→nodes≤4000→0≤d→d≤250 →
 Calls Tryz.prog 11 #[.agg #[v0,v1,v2,v3,v4,v5,v6],.int .i64 nodes,.int .i64 d] w fun e' w'=>e'=.returned (.int .i64 (leftP e nodes d))∧Below w.heap.size w w'
set_option maxRecDepth 100000 in
set_option maxHeartbeats 4000000 in
theorem left_go (P:Nat→Prop)(k n:Int)(s t:List UInt8)(ns:List (List UInt8))(l bs:List Ex)(ops:List (List UInt8 × List (List UInt8)))(nodes d:Int)(An:Option Addr)(cn:Nat)(Al:Option Addr)(cl:Nat)(Aa:Option Addr)(ca:Nat)(w:World)
  (hf:Fits k n s t ns l.length bs.length cn cl ca) (hn:NamesAt P w An ns)
  (hL:l≠[]→∃ b off,Al=some ⟨b,off,none⟩∧P b∧b < w.heap.size∧RepL P w b off l) (hA:bs≠[]→∃ b off,Aa=some ⟨b,off,none⟩∧P b∧b < w.heap.size∧RepA P w b off ops bs) (ho:ops.length=bs.length)
  (hnodes:0≤nodes∧nodes≤4000) (hd:0≤d∧d≤250)
  (h:¬ (d < 1∨100 < s.length∨100 < t.length∨longP ns=true∨50 < l.length∨50 < bs.length))
  (ihL:∀ x∈l,LeftSays P x) (ihA:∀ x∈bs,LeftSays P x) :
  Calls Tryz.prog 11 #[.agg #[.int .i64 k,.int .i64 n,.string (strB s),.string (strB t),.slice An ns.length cn,.slice Al l.length cl,.slice Aa bs.length ca],.int .i64 nodes,.int .i64 d] w fun e w'=>e=.returned (.int .i64 (leftP (.mk k n s t ns l ops bs) nodes d))∧Below w.heap.size w w':=by
 have HR:=Lib.hid (leftP_go (k:=k) (n:=n) (ops:=ops) (nodes:=nodes) h)
 simp only [not_or,Nat.not_lt,Bool.not_eq_true,Int.not_lt] at h
 obtain ⟨h1,h2,h3,h4,h5,h6⟩:=h
 have HS:Hid ((strB s).size=s.length):=strB_size s
 have HT:Hid ((strB t).size=t.length):=strB_size t
 obtain ⟨S,hS⟩:∃ S,S=strB s:=⟨_,rfl⟩
 obtain ⟨T,hT⟩:∃ T,T=strB t:=⟨_,rfl⟩
 rw [← hS] at HS ⊢
 rw [← hT] at HT ⊢
 have HLg:Hid (∀ w',NamesAt P w' An ns→Calls Tryz.prog 23 #[.slice An ns.length cn] w' fun e w2=>e=.returned (.bool false)∧w'=w2):=fun w' h'=>by
  have:=long_any P An cn ns w' h' (Nat.le_trans hf.hcn.1 hf.hcn.2);rwa [h4] at this
 have HN:Hid (∀ X,NamesAt P (w.alloc X) An ns):=fun X=>hn.keep (Same.of_below ((Below.refl _ _).alloc (Nat.le_refl _) _))
 obtain ⟨n1,n2⟩:=hnodes
 obtain ⟨_,d2⟩:=hd
 have b1:decide (d < 1)=false:=decide_eq_false (by omega)
 have b2:decide ((100:Int) < (S.size:Int))=false:=decide_eq_false (by rw [HS.out];omega)
 have b3:decide ((100:Int) < (T.size:Int))=false:=decide_eq_false (by rw [HT.out];omega)
 have b6:decide ((50:Int) < (l.length:Int))=false:=decide_eq_false (by omega)
 have b7:decide ((50:Int) < (bs.length:Int))=false:=decide_eq_false (by omega)
 have HL:=Lib.hid hL
 have HA:=Lib.hid hA
 have HO:=Lib.hid ho
 have IHL:=Lib.hid ihL
 have IHA:=Lib.hid ihA
 obtain ⟨nl,hnl⟩:∃ nl,nl=l.length:=⟨_,rfl⟩
 obtain ⟨nb,hnb⟩:∃ nb,nb=bs.length:=⟨_,rfl⟩
 have HNL:=Lib.hid hnl
 have HNB:=Lib.hid hnb
 rw [← hnl] at h5 b6 ⊢
 rw [← hnb] at h6 b7 ⊢
 clear hS hT hn hf h2 h3 h4 hL hA ho ihL ihA hnl hnb
 go_enter Tryz.func11,Tryz.ntmps11
 go_wp2_with (go_at_call 23;refine (HLg.out _ (HN.out _)).mono ?_;rintro e w' ⟨rfl,rfl⟩)
 obtain ⟨w0,hw0⟩:∃ w0,w.alloc (Obj.cells #[.int .i64 k,.int .i64 n,.string S,.string T,.slice An ns.length cn,.slice Al nl cl,.slice Aa nb ca] 27)=w0:=⟨_,rfl⟩
 have HB0:Hid (Below w.heap.size w w0):=by rw [← hw0];exact (Below.refl _ _).alloc (Nat.le_refl _) _
 have HC5:Hid (w0.cell? ⟨w.heap.size,5,none⟩=some (.slice Al nl cl)):=by show _=_;rw [← hw0];rw [cell_of_row _ _ _ _ _ (0,0) (heap_alloc_new w _)];rfl
 have HC6:Hid (w0.cell? ⟨w.heap.size,6,none⟩=some (.slice Aa nb ca)):=by show _=_;rw [← hw0];rw [cell_of_row _ _ _ _ _ (0,0) (heap_alloc_new w _)];rfl
 have hz:w.heap.size < w0.heap.size:=by rw [← hw0];simp
 rw [hw0]
 clear hw0
 go_loopw [1,7] (fun v i wr=>∃ (j:Nat) (N:Int),j≤nl∧-1≤N∧N≤3999∧i=.int .i64 (j:Int)∧v=.int .i64 N∧Hid (N=leftL (l.take j) (nodes - 1) (d - 1))∧Hid (Below w0.heap.size w0 wr)) (fun _ i _=>nl - (intOf i).toNat)
 case atStart=>exact ⟨0,nodes - 1,by omega,by omega,by omega,rfl,rfl,by show _=_;rw [List.take_zero,leftL],Below.refl _ _⟩
 case round =>
  obtain ⟨j,N,hj,hN1,hN2,rfl,rfl,HNJ,HB⟩:=hrel
  have c5:wr.cell? ⟨w.heap.size,5,none⟩=some (.slice Al nl cl):=(HB.out.cell (p:=⟨w.heap.size,5,none⟩) hz).trans HC5.out
  have hgo:(j < nl∧0≤N)∨((j < nl∧N < 0)∨nl≤j):=by omega
  rcases hgo with ⟨hjl,h0⟩ | hex
  ·have g1:decide (j < nl)=true:=decide_eq_true hjl
   have g2:decide ((0:Int)≤N)=true:=decide_eq_true h0
   have hjl':j < l.length:=by rw [← HNL.out];exact hjl
   obtain ⟨b,off,rfl,hp,hlt,hr⟩:=HL.out (List.ne_nil_of_length_pos (by omega))
   obtain ⟨cs,h7,hc,he⟩:=RepL.at hr (List.getElem?_eq_getElem hjl')
   obtain ⟨v0,v1,v2,v3,v4,v5,v6,rfl⟩:=seven h7
   have hs:Same P w wr:=Same.of_below (HB0.out.trans (HB.out.mono HB0.out.size))
   have hcw:=hc.keep hp hlt hs
   have d0:=hcw 0 v0 rfl
   have d1:=hcw 1 v1 rfl
   have d2':=hcw 2 v2 rfl
   have d3:=hcw 3 v3 rfl
   have d4:=hcw 4 v4 rfl
   have d5:=hcw 5 v5 rfl
   have d6:=hcw 6 v6 rfl
   rw [Nat.add_zero] at d0
   have hle:=leftP_le l[j] N (d - 1) h0
   obtain ⟨N',hN'⟩:∃ N',N'=leftP l[j] N (d - 1):=⟨_,rfl⟩
   have HNN:Hid (N'=leftL (l.take (j+1)) (nodes - 1) (d - 1)):=by
    show _=_;rw [hN'];exact leftL_step HNJ.out h0 (List.getElem?_eq_getElem hjl')
   have HI:Hid (∀ wx,Same P wr wx→Calls Tryz.prog 11 #[.agg #[v0,v1,v2,v3,v4,v5,v6],.int .i64 N,.int .i64 (d - 1)] wx fun e' w'=>e'=.returned (.int .i64 N')∧Below wx.heap.size wx w'):=fun wx hx=>by
    rw [hN'];exact IHL.out _ (List.getElem_mem hjl') v0 v1 v2 v3 v4 v5 v6 N (d - 1) wx ((he.keep hs).keep hx) h0 (by omega) (by omega) (by omega)
   rw [← hN'] at hle
   obtain ⟨hle1,hle2⟩:=hle
   have i0:(0:Int)≤(j:Int):=by omega
   have i1:(j:Int) < (nl:Int):=by omega
   clear hcw hc hr he hs hN' hjl' hp hlt
   go_wp2_with (go_at_call 11;refine (HI.out _ (Same.refl _ _)).mono ?_;rintro e w' ⟨rfl,hb⟩;have HB2:Hid (Below w0.heap.size w0 w'):=HB.out.trans (hb.mono HB.out.size);clear hb)
   go_roundw
   case rel=>exact ⟨j+1,N',by omega,by omega,by omega,by go_num,rfl,HNN,HB2.out⟩
   case measure=>simp [intOf];omega
  ·have HNX:Hid (N=leftL l (nodes - 1) (d - 1)):=leftL_end HNJ.out (by have:=HNL.out;omega)
   clear HNJ
   have hb2:∃ p q:Bool,decide (j < nl)=p∧decide ((0:Int)≤N)=q∧(p=false∨(p=true∧q=false)):=by
    rcases hex with ⟨h1,h2⟩ | h
    ·exact ⟨true,false,decide_eq_true h1,decide_eq_false (by omega),.inr ⟨rfl,rfl⟩⟩
    ·exact ⟨false,_,decide_eq_false (by omega),rfl,.inl rfl⟩
   clear hex
   obtain ⟨p,q,g1,g2,hpq⟩:=hb2
   have i0:(0:Int)≤(j:Int):=by omega
   rcases hpq with rfl | ⟨rfl,rfl⟩
   all_goals
    go_wp2_with fail
    obtain ⟨wa,rfl⟩:∃ wa:World,wa=wr:=⟨_,rfl⟩
    go_loopw [1,8] (fun v i wr=>∃ (j:Nat) (M:Int),j≤nb∧-1≤M∧M≤3999∧i=.int .i64 (j:Int)∧v=.int .i64 M∧Hid (goodArms ops j)∧Hid (M=leftA (ops.take j) (bs.take j) N (d - 1))∧Hid (Below w0.heap.size w0 wr)) (fun _ i _=>nb - (intOf i).toNat)
    case atStart=>exact ⟨0,N,by omega,by omega,by omega,rfl,rfl,fun i x h=>by omega,by show _=_;rw [List.take_zero,List.take_zero,leftA],HB.out⟩
    case round =>
     clear HB c5 g1 g2
     obtain ⟨j2,M,hj2,hM1,hM2,rfl,rfl,HG,HMJ,HB⟩:=hrel
     have c6:wr.cell? ⟨w.heap.size,6,none⟩=some (.slice Aa nb ca):=(HB.out.cell (p:=⟨w.heap.size,6,none⟩) hz).trans HC6.out
     have hgo:(j2 < nb∧0≤M)∨((j2 < nb∧M < 0)∨nb≤j2):=by omega
     rcases hgo with ⟨hjb,h0⟩ | hex
     ·have g1:decide (j2 < nb)=true:=decide_eq_true hjb
      have g2:decide ((0:Int)≤M)=true:=decide_eq_true h0
      have hjb':j2 < bs.length:=by rw [← HNB.out];exact hjb
      obtain ⟨b,off,rfl,hp,hlt,hr⟩:=HA.out (List.ne_nil_of_length_pos (by omega))
      obtain ⟨o,hoo,A,c,cs,ho1,ho2,ho3,ho4,h7,hc,hnm,he⟩:=RepA.at hr (List.getElem?_eq_getElem hjb')
      obtain ⟨v0,v1,v2,v3,v4,v5,v6,rfl⟩:=seven h7
      obtain ⟨op,ons⟩:=o
      simp only at ho1 ho2 ho3 hc hnm
      have hs:Same P w wr:=Same.of_below (HB0.out.trans (HB.out.mono HB0.out.size))
      have hcw:=hc.keep hp hlt hs
      have e0:=hcw 0 _ rfl
      have e1:=hcw 1 _ rfl
      have d0:=hcw 2 v0 rfl
      have d1:=hcw 3 v1 rfl
      have d2':=hcw 4 v2 rfl
      have d3:=hcw 5 v3 rfl
      have d4:=hcw 6 v4 rfl
      have d5:=hcw 7 v5 rfl
      have d6:=hcw 8 v6 rfl
      rw [Nat.add_zero] at e0
      obtain ⟨O,hO⟩:∃ O,O=strB op:=⟨_,rfl⟩
      have HOs:Hid (O.size=op.length):=by show _=_;rw [hO,strB_size]
      rw [← hO] at e0
      have i0':(0:Int)≤(j2:Int):=by omega
      have i1:(j2:Int) < (nb:Int):=by omega
      have HLO:∀ bb,longP ons=bb→Hid (∀ wx,Same P wr wx→Calls Tryz.prog 23 #[.slice A ons.length c] wx fun e w2=>e=.returned (.bool bb)∧wx=w2):=fun bb hbb wx hx=>by
       have:=long_any P A c ons wx ((hnm.keep hs).keep hx) (Nat.le_trans ho3 ho4);rwa [hbb] at this
      by_cases hbad:100 < op.length∨longP ons=true
      ·have HRR:=Lib.hid (show leftA ops bs N (d - 1)=-1 from leftA_bad ops bs j2 (op,ons) N (d - 1) hoo (by rw [HO.out]) HG.out hbad (by rw [← HMJ.out];exact h0))
       by_cases hol:100 < O.size
       ·have b8:decide ((100:Int) < (O.size:Int))=true:=decide_eq_true (by omega)
        clear hcw hc hr he hs hjb' hp hlt hO HLO hoo hnm hbad
        go_wp2_with fail
        go_ret
        exact ⟨by rw [HR.out,← HNX.out,HRR.out];rfl,HB0.out.trans (HB.out.mono HB0.out.size)⟩
       ·have b8:decide ((100:Int) < (O.size:Int))=false:=decide_eq_false (by omega)
        have HL1:=HLO true (by rw [← HOs.out] at hbad;rcases hbad with h | h;exact absurd h hol;exact h)
        clear hcw hc hr he hs hjb' hp hlt hO HLO hoo hnm hbad
        go_wp2_with (go_at_call 23;refine (HL1.out _ (Same.refl _ _)).mono ?_;rintro e w' ⟨rfl,rfl⟩)
        go_ret
        exact ⟨by rw [HR.out,← HNX.out,HRR.out];rfl,HB0.out.trans (HB.out.mono HB0.out.size)⟩
      ·have b8:decide ((100:Int) < (O.size:Int))=false:=decide_eq_false (by rw [HOs.out];omega)
       have HL1:=HLO false (by simp only [not_or,Bool.not_eq_true] at hbad;exact hbad.2)
       have hle:=leftP_le bs[j2] M (d - 1) h0
       obtain ⟨M',hM'⟩:∃ M',M'=leftP bs[j2] M (d - 1):=⟨_,rfl⟩
       have HMM:Hid (M'=leftA (ops.take (j2+1)) (bs.take (j2+1)) N (d - 1)):=by
        show _=_;rw [hM'];exact leftA_step HO.out HG.out HMJ.out h0 (List.getElem?_eq_getElem hjb') hoo hbad
       have HG2:Hid (goodArms ops (j2+1)):=fun i x hi hx=>by
        by_cases e:i=j2
        ·subst e;rw [hoo,Option.some.injEq] at hx;subst hx;exact hbad
        ·exact HG.out i x (by omega) hx
       have HI:Hid (∀ wx,Same P wr wx→Calls Tryz.prog 11 #[.agg #[v0,v1,v2,v3,v4,v5,v6],.int .i64 M,.int .i64 (d - 1)] wx fun e' w'=>e'=.returned (.int .i64 M')∧Below wx.heap.size wx w'):=fun wx hx=>by
        rw [hM'];exact IHA.out _ (List.getElem_mem hjb') v0 v1 v2 v3 v4 v5 v6 M (d - 1) wx ((he.keep hs).keep hx) h0 (by omega) (by omega) (by omega)
       rw [← hM'] at hle
       obtain ⟨hle1,hle2⟩:=hle
       clear hcw hc hr he hs hM' hjb' hp hlt hO HLO hoo hnm hbad
       go_wp2_with (first | (go_at_call 23;refine (HL1.out _ (Same.refl _ _)).mono ?_;rintro e w' ⟨rfl,rfl⟩) | (go_at_call 11;refine (HI.out _ (Same.refl _ _)).mono ?_;rintro e w' ⟨rfl,hb⟩;have HB2:Hid (Below w0.heap.size w0 w'):=HB.out.trans (hb.mono HB.out.size);clear hb))
       go_roundw
       case rel=>exact ⟨j2+1,M',by omega,by omega,by omega,by go_num,rfl,HG2,HMM,HB2.out⟩
       case measure=>simp [intOf];omega
     ·have HMX:Hid (M=leftA ops bs N (d - 1)):=leftA_end HO.out HG.out HMJ.out (by have:=HNB.out;omega)
      clear HMJ
      have hb2:∃ p q:Bool,decide (j2 < nb)=p∧decide ((0:Int)≤M)=q∧(p=false∨(p=true∧q=false)):=by
       rcases hex with ⟨h1,h2⟩ | h
       ·exact ⟨true,false,decide_eq_true h1,decide_eq_false (by omega),.inr ⟨rfl,rfl⟩⟩
       ·exact ⟨false,_,decide_eq_false (by omega),rfl,.inl rfl⟩
      clear hex
      obtain ⟨p,q,g1,g2,hpq⟩:=hb2
      rcases hpq with rfl | ⟨rfl,rfl⟩
      all_goals
       go_wp2_with fail
       go_ret
       exact ⟨by rw [HR.out,← HNX.out,← HMX.out];rfl,HB0.out.trans (HB.out.mono HB0.out.size)⟩
theorem left_any (P:Nat→Prop):∀ e,LeftSays P e:=by
 refine Ex.ind fun e ih=>?_
 cases e with
 | mk k n s t ns l ops bs =>
  intro v0 v1 v2 v3 v4 v5 v6 nodes d w hr h1 h2 h3 h4
  obtain ⟨An,cn,Al,cl,Aa,ca,he,hf,hn,hL,hA,ho⟩:=hr
  simp only [exCells,List.cons.injEq,and_true] at he
  obtain ⟨rfl,rfl,rfl,rfl,rfl,rfl,rfl⟩:=he
  by_cases h:d < 1∨100 < s.length∨100 < t.length∨longP ns=true∨50 < l.length∨50 < bs.length
  ·rw [leftP_stop h]
   exact left_stop P k n s t ns l bs nodes d An cn Al cl Aa ca w hf hn ⟨h1,h2⟩ ⟨h3,h4⟩ h
  ·exact left_go P k n s t ns l bs ops nodes d An cn Al cl Aa ca w hf hn hL hA ho ⟨h1,h2⟩ ⟨h3,h4⟩ h (fun x hx=>ih x (List.mem_append_left _ hx)) (fun x hx=>ih x (List.mem_append_right _ hx))
def great (e:Ex):Bool:=decide (leftP e 4000 250 < 0)
set_option maxRecDepth 100000 in
set_option maxHeartbeats 1000000 in
theorem Great_any (P:Nat→Prop)(e:Ex)(v0 v1 v2 v3 v4 v5 v6:Value)(w:World)(hr:RepE P w e [v0,v1,v2,v3,v4,v5,v6]) :
  Calls Tryz.prog 4 #[.agg #[v0,v1,v2,v3,v4,v5,v6]] w fun e' w'=>e'=.returned (.bool (great e))∧Below w.heap.size w w':=by
 obtain ⟨N,hN⟩:∃ N,N=leftP e 4000 250:=⟨_,rfl⟩
 have HC:Hid (∀ X,Calls Tryz.prog 11 #[.agg #[v0,v1,v2,v3,v4,v5,v6],.int .i64 4000,.int .i64 250] (w.alloc X) fun e' w'=>e'=.returned (.int .i64 N)∧Below (w.alloc X).heap.size (w.alloc X) w'):=fun X=>by
  rw [hN]
  exact left_any P e v0 v1 v2 v3 v4 v5 v6 4000 250 _ (hr.keep (Same.of_below ((Below.refl _ _).alloc (Nat.le_refl _) _))) (by omega) (by omega) (by omega) (by omega)
 have HG:∀ b,decide (N < 0)=b→Hid (great e=b):=fun b hb=>by show _=_;unfold great;rw [← hN,hb]
 clear hr
 cases hb:decide (N < 0)
 all_goals
  have HGB:=HG _ hb
  clear HG hN
  go_enter Tryz.func4,Tryz.ntmps4
  go_wp2_with (go_at_call 11;refine (HC.out _).mono ?_;rintro e w' ⟨rfl,hb2⟩;have HB2:Hid (Below w.heap.size w w'):=((Below.refl _ _).alloc (Nat.le_refl _) _).trans (hb2.mono (by simp));clear hb2)
  go_ret
  exact ⟨by rw [HGB.out];rfl,HB2.out⟩
def usesTab:List (List Int):=[[0,1,0,0,0,0,0,0],[3,0,0,0,0,0,0,0],[1,0,0,0,0,0,0,0],[0,0,0,0,0,0,0,0],[0,0,0,1,0,1,0,0],[0,0,0,0,0,2,0,0],[0,0,0,1,0,2,0,0],[0,0,0,2,0,2,0,0],[0,0,0,0,0,3,0,0],[0,4,0,0,0,2,0,0],
 [0,2,0,0,0,0,4,0],[0,0,0,0,0,1,0,1],[0,1,0,0,0,1,0,0],[0,1,1,0,0,1,0,0],[1,2,0,0,0,1,0,2],[0,2,0,1,0,1,0,2],[0,2,0,0,0,1,0,0],[0,0,0,1,12,3,0,0],[0,1,0,0,0,1,0,0],[0,1,0,0,0,0,0,0]]
def useOf (k j:Nat):Int:=(usesTab.getD k []).getD j 0
theorem useOf_bd:∀ k,k < 20→(0≤useOf k 0∧useOf k 0≤3)∧(useOf k 1=0∨useOf k 1=1∨useOf k 1=2∨useOf k 1=4)∧(useOf k 2=0∨useOf k 2=1∨useOf k 2=2∨useOf k 2=4) ∧
  (0≤useOf k 3∧useOf k 3≤255)∧(0≤useOf k 4∧useOf k 4≤255)∧(0≤useOf k 5∧useOf k 5≤255)∧(0≤useOf k 6∧useOf k 6≤255)∧(useOf k 7=0∨useOf k 7=1∨useOf k 7=2):=by decide
def usesVals:List Value:=usesTab.flatten.map fun n=>Value.int .u8 n
theorem usesVals_at:∀ k,k < 20→∀ j,j < 8→usesVals[k*8+j]?=some (.int .u8 (useOf k j)):=by
 have h:∀ k,k < 20→∀ j,j < 8→usesTab.flatten[k*8+j]?=some (useOf k j):=by decide
 intro k hk j hj
 unfold usesVals
 rw [List.getElem?_map,h k hk j hj]
 rfl
def Uses (w:World):Prop:=∃ t fr,w.heap[0]?=some (.cells usesVals.toArray t fr)
theorem Uses.at {w:World}(h:Uses w)(k:Nat)(hk:k < 20)(j:Nat)(hj:j < 8):w.cell? ⟨0,k*8+j,none⟩=some (.int .u8 (useOf k j)):=by
 obtain ⟨t,fr,h⟩:=h
 unfold World.cell?
 simp only [h]
 rw [← usesVals_at k hk j hj]
 simp
theorem Uses.grown {w w':World}(h:Uses w)(hg:w.grownBy w' none):Uses w':=by
 obtain ⟨t,fr,h⟩:=h
 exact ⟨t,fr,by rw [hg.block _ (Array.getElem?_eq_some_iff.1 h).1 (by simp),h]⟩
theorem Uses.below {w w':World}(h:Uses w)(hb:Below w.heap.size w w'):Uses w':=by
 obtain ⟨t,fr,h⟩:=h
 exact ⟨t,fr,by rw [hb.block _ (Array.getElem?_eq_some_iff.1 h).1,h]⟩
def roomB (n:Nat)(a:Int):Bool:=(n:Int) == 0 || (a != 0 && decide ((n:Int)≤9))
set_option maxRecDepth 100000 in
set_option maxHeartbeats 1000000 in
theorem hasRoom_any (v0 v1 v2 v3 v4 v5:Value)(A:Option Addr)(n c:Nat)(u0 u1 u2 u3 u4 u5 u6:Value)(a:Int)(w:World) :
  Calls Tryz.prog 98 #[.agg #[v0,v1,v2,v3,v4,v5,.slice A n c,u0,u1,u2,u3,u4,u5,u6,.int .u8 a]] w fun e w'=>e=.returned (.bool (roomB n a))∧Below w.heap.size w w':=by
 have hb0:=Lib.hid ((Below.refl w.heap.size w).alloc (Nat.le_refl _) (.cells #[v0,v1,v2,v3,v4,v5,.slice A n c,u0,u1,u2,u3,u4,u5,u6,.int .u8 a] 133))
 obtain ⟨r,hr⟩:∃ r,r=roomB n a:=⟨_,rfl⟩
 have HR:=Lib.hid hr
 rw [← hr]
 clear hr
 by_cases hn:(n:Int) == 0
 ·have HR2:Hid (r=true):=Lib.hid (by rw [HR.out];unfold roomB;rw [hn];rfl)
  go_enter Tryz.func98,Tryz.ntmps98
  go_wp2_with fail
  go_ret
  exact ⟨by rw [HR2.out];rfl,hb0.out⟩
 ·have hn2:((n:Int) == 0)=false:=by simpa using hn
  clear hn
  by_cases ha:a=0
  ·subst ha
   have HR2:Hid (r=false):=Lib.hid (by rw [HR.out];unfold roomB;rw [hn2];rfl)
   go_enter Tryz.func98,Tryz.ntmps98
   go_wp2_with fail
   go_ret
   exact ⟨by rw [HR2.out];rfl,hb0.out⟩
  ·have ha2:(a != 0)=true:=by simpa using ha
   have HR2:Hid (r=decide ((n:Int)≤9)):=Lib.hid (by rw [HR.out];unfold roomB;rw [hn2,ha2];rfl)
   go_enter Tryz.func98,Tryz.ntmps98
   go_wp2_with fail
   go_ret
   exact ⟨by rw [HR2.out];rfl,hb0.out⟩
theorem drop_cons (s:ByteArray)(m:Nat)(h:m < s.size):s.data.toList.drop m=s[m] :: s.data.toList.drop (m+1):=by
 rw [List.drop_eq_getElem_cons (by rw [len_data];exact h)];rfl
theorem drop_end (s:ByteArray)(m:Nat)(h:¬ m < s.size):s.data.toList.drop m=[]:=by
 apply List.drop_eq_nil_of_le;rw [len_data];omega
theorem u8_eq (c:UInt8)(n:UInt8):c=n↔(c.toNat:Int)=(n.toNat:Int):=by
 rw [UInt8.toNat_inj.symm];omega
theorem sp_end (s:ByteArray)(m:Nat)(cm:Bool)(h:¬ m < s.size):spLen cm (s.data.toList.drop m)=0:=by rw [drop_end s m h];cases cm <;> rfl
theorem sp_nl (s:ByteArray)(m:Nat)(cm:Bool)(h:m < s.size)(hc:s[m]=10):spLen cm (s.data.toList.drop m)=1+spLen false (s.data.toList.drop (m+1)):=by
 rw [drop_cons s m h];simp [spLen,hc]
theorem sp_hash (s:ByteArray)(m:Nat)(cm:Bool)(h:m < s.size)(hc:s[m]=35):spLen cm (s.data.toList.drop m)=1+spLen true (s.data.toList.drop (m+1)):=by
 rw [drop_cons s m h];simp [spLen,hc]
theorem sp_in (s:ByteArray)(m:Nat)(cm:Bool)(h:m < s.size)(h1:s[m]≠10)(h2:s[m]≠35)(hc:cm=true∨s[m]=32∨s[m]=9):spLen cm (s.data.toList.drop m)=1+spLen cm (s.data.toList.drop (m+1)):=by
 rw [drop_cons s m h];simp only [spLen,h1,h2,if_false]
 rw [if_pos]
 rcases hc with rfl | hc | hc <;> simp [*]
theorem sp_out (s:ByteArray)(m:Nat)(h:m < s.size)(h1:s[m]≠10)(h2:s[m]≠35)(h3:s[m]≠32)(h4:s[m]≠9):spLen false (s.data.toList.drop m)=0:=by
 rw [drop_cons s m h];simp [spLen,h1,h2,h3,h4]
theorem beq_u8 {c:UInt8}{n:Nat}(hn:n < 256):((c.toNat:Int) == (n:Int))=(c == UInt8.ofNat n):=by
 rw [Bool.eq_iff_iff,beq_iff_eq,beq_iff_eq,u8_eq]
 simp [UInt8.toNat_ofNat',Nat.mod_eq_of_lt hn]
set_option maxHeartbeats 600000 in
theorem space_any (b:Nat)(s:ByteArray)(p:Nat)(q:Int)(w:World)(hS:Src w b s p q)(hs:s.size≤30000)(hp:p≤s.size) :
  Calls Tryz.prog 109 #[.pointer (some ⟨b,0,none⟩)] w fun e w'=>e=.returned (.string (s.extract p (p+spLen false (s.data.toList.drop p))))∧Moved w w' b s ((p+spLen false (s.data.toList.drop p):Nat):Int) q:=by
 have h0:=hS.c0
 have h1:=hS.c1
 have HS:=Lib.hid hS
 clear hS
 go_enter Tryz.func109,Tryz.ntmps109
 go_wp2
 go_loop [3,4] (fun i c=>∃ (m:Nat) (cm:Bool),p≤m∧m≤s.size∧i=.int .i64 (m:Int)∧c=.bool cm∧Hid (p+spLen false (s.data.toList.drop p)=m+spLen cm (s.data.toList.drop m))) (fun i _=>s.size - (intOf i).toNat)
 case atStart=>exact ⟨p,false,by omega,hp,rfl,rfl,rfl⟩
 case round =>
  obtain ⟨m,cm,hpm,hk,rfl,rfl,HA⟩:=hrel
  have HT:Hid (∀ w:World,Src w b s p q→Calls Tryz.prog 132 #[.pointer (some ⟨b,0,none⟩),.int .i64 ((m:Int) - p)] w fun e w'=>e=.returned (.string (s.extract p m))∧Moved w w' b s (m:Int) q):=fun w h=>by
   have:=take_any b s p (m - p) q w h hs (by omega)
   rw [show p+(m - p)=m from by omega,show ((m - p:Nat):Int)=(m:Int) - p from by omega] at this
   exact this
  by_cases hlt:m < s.size
  ·have g10:(((s[m]'hlt).toNat:Int) == 10)=(s[m] == 10):=beq_u8 (by decide)
   have g35:(((s[m]'hlt).toNat:Int) == 35)=(s[m] == 35):=beq_u8 (by decide)
   have g32:(((s[m]'hlt).toNat:Int) == 32)=(s[m] == 32):=beq_u8 (by decide)
   have g9:(((s[m]'hlt).toNat:Int) == 9)=(s[m] == 9):=beq_u8 (by decide)
   by_cases c10:s[m]=10
   ·have HW:Hid (p+spLen false (s.data.toList.drop p)=m+1+spLen false (s.data.toList.drop (m+1))):=by
     show _=_
     rw [HA.out,sp_nl s m cm hlt c10];omega
    clear HA
    have b10:(((s[m]'hlt).toNat:Int) == 10)=true:=by rw [g10,c10];rfl
    clear g10 g35 g32 g9 c10
    go_wp2_with fail
    go_round
    case rel=>exact ⟨m+1,false,by omega,by omega,by go_num,rfl,HW⟩
    case measure=>simp [intOf];omega
   have b10:(((s[m]'hlt).toNat:Int) == 10)=false:=by rw [g10];simpa using c10
   by_cases c35:s[m]=35
   ·have HW:Hid (p+spLen false (s.data.toList.drop p)=m+1+spLen true (s.data.toList.drop (m+1))):=by
     show _=_
     rw [HA.out,sp_hash s m cm hlt c35];omega
    clear HA
    have b35:(((s[m]'hlt).toNat:Int) == 35)=true:=by rw [g35,c35];rfl
    clear g10 g35 g32 g9 c10 c35
    go_wp2_with fail
    go_round
    case rel=>exact ⟨m+1,true,by omega,by omega,by go_num,rfl,HW⟩
    case measure=>simp [intOf];omega
   have b35:(((s[m]'hlt).toNat:Int) == 35)=false:=by rw [g35];simpa using c35
   by_cases hin:cm=true∨s[m]=32∨s[m]=9
   ·have HW:Hid (p+spLen false (s.data.toList.drop p)=m+1+spLen cm (s.data.toList.drop (m+1))):=by
     show _=_
     rw [HA.out,sp_in s m cm hlt c10 c35 hin];omega
    clear HA c10 c35
    cases cm with
    | true =>
     clear hin g10 g35 g32 g9
     go_wp2_with fail
     go_round
     case rel=>exact ⟨m+1,true,by omega,by omega,by go_num,rfl,HW⟩
     case measure=>simp [intOf];omega
    | false =>
     by_cases c32:s[m]=32
     ·have b32:(((s[m]'hlt).toNat:Int) != 32)=false:=by rw [bne,g32,c32];rfl
      clear hin g10 g35 g32 g9 c32
      go_wp2_with fail
      go_round
      case rel=>exact ⟨m+1,false,by omega,by omega,by go_num,rfl,HW⟩
      case measure=>simp [intOf];omega
     ·have c9:s[m]=9:=by simpa [c32] using hin
      have b32:(((s[m]'hlt).toNat:Int) != 32)=true:=by rw [bne,g32];simpa using c32
      have b9:(((s[m]'hlt).toNat:Int) != 9)=false:=by rw [bne,g9,c9];rfl
      clear hin g10 g35 g32 g9 c32 c9
      go_wp2_with fail
      go_round
      case rel=>exact ⟨m+1,false,by omega,by omega,by go_num,rfl,HW⟩
      case measure=>simp [intOf];omega
   ·obtain ⟨hcm,c32,c9⟩:cm=false∧s[m]≠32∧s[m]≠9:=by
     refine ⟨?_,fun e=>hin (.inr (.inl e)),fun e=>hin (.inr (.inr e))⟩
     cases cm with
     | false=>rfl
     | true=>exact absurd (.inl rfl) hin
    subst hcm
    have HW:Hid (p+spLen false (s.data.toList.drop p)=m):=by
     show _=_
     rw [HA.out,sp_out s m hlt c10 c35 c32 c9,Nat.add_zero]
    clear HA
    have b32:(((s[m]'hlt).toNat:Int) != 32)=true:=by rw [bne,g32];simpa using c32
    have b9:(((s[m]'hlt).toNat:Int) != 9)=true:=by rw [bne,g9];simpa using c9
    clear hin g10 g35 g32 g9 c32 c9 c10 c35
    go_wp2_with (go_at_call 132;refine (HT.out _ HS.out).mono ?_;rintro e w' ⟨rfl,HM⟩)
    go_ret
    rw [HW.out]
    exact ⟨rfl,HM⟩
  ·have HW:Hid (p+spLen false (s.data.toList.drop p)=m):=by
    show _=_
    rw [HA.out,sp_end s m cm hlt,Nat.add_zero]
   clear HA
   go_wp2_with (go_at_call 132;refine (HT.out _ HS.out).mono ?_;rintro e w' ⟨rfl,HM⟩)
   go_ret
   rw [HW.out]
   exact ⟨rfl,HM⟩
end Go.Proofs.YtpjabnemkmdobaaGreatDoor
namespace Go.Proofs.YtpjabnemkmdobaaGreatDoor
open Go.RowKit Go.Maps Go.WideMaps Go.WideElems Go.ChangeShapes Go.WideShapes Go.ChangeAt
def kwOf (n:Nat):List (List UInt8):=kwList.filter (fun k=>k.length == n)
theorem isKw_of (l:List UInt8):isKw l=(kwOf l.length).contains l:=by
 unfold isKw kwOf
 rw [Bool.eq_iff_iff,List.contains_iff_mem,List.contains_iff_mem,List.mem_filter]
 simp
theorem kwLaw:Keyed Tryz.prog 9:=string_keyed Tryz.underlying9
theorem zero4 (w:World):(zeroValue 4).run Tryz.prog w=.ok (.bool false) w:=by kernel_rfl
def KwMap (w0 w:World)(b:Nat)(ks:List (List UInt8)):Prop :=
 (∃ D:DataW Unit,w.ownsMap Tryz.prog 9 (plainElem Tryz.prog 4) b ks.length D∧IsMap D∧∀ l,D.atKey (.string l) (.lit (.bool false))=.lit (.bool (ks.contains l)))∧Below w0.heap.size w0 w∧w0.heap.size≤b
theorem kw_made (w:World):KwMap w (w.alloc (.map #[] 0)) w.heap.size [] :=
 ⟨⟨_,World.ownsMap_made _ _ _ _,isMap_empty,fun _=>rfl⟩,(Below.refl _ _).alloc (Nat.le_refl _) _,Nat.le_refl _⟩
theorem kw_put {w0 w w':World}{b:Nat}{ks:List (List UInt8)}{D:DataW Unit}(k:List UInt8)(hB:Below w0.heap.size w0 w)(hb:w0.heap.size≤b)(hD:IsMap D)
  (hat:∀ l,D.atKey (.string l) (.lit (.bool false))=.lit (.bool (ks.contains l)))
  (h':w'.ownsMap Tryz.prog 9 (plainElem Tryz.prog 4) b (ks.length+1) (D.put (.string k) (.lit (.bool true)))) (hg:w.grownBy w' (some b)):KwMap w0 w' b (k :: ks):=by
 refine ⟨⟨_,h',hD.put _ _,fun l=>?_⟩,hB.grown hg hB.size (fun j e=>by cases e;exact hb),hb⟩
 by_cases e:l=k
 ·subst e
  rw [atKey_put_same hD (by trivial)]
  simp
 ·rw [atKey_put_other (by intro h;cases h;exact e rfl),hat]
  have:(l == k)=false:=by simpa using e
  rw [List.contains_cons,this,Bool.false_or]
set_option maxRecDepth 100000 in
theorem wpList_insert_kw {w0:World}(w:World){ops:Array Oper}{rest:List Oper}{o:Oper}{a:Act}{Q:Exit→Act→World→Prop}
  (hg:o.guard=none) (m x v:Operand) (hop:o.op=Op.insert 172 m x v) (b:Nat) (ks:List (List UInt8)) (hm:a.eval m=.map (some b)) (hown:KwMap w0 w b ks) (hn:ks.length < 100)
  (s:ByteArray) (hx:a.eval x=.string s) (hs:s.size < 100) (hv:a.eval v=.bool true)
  (hK:∀ w',KwMap w0 w' b (s.data.toList :: ks)→wpList Tryz.prog ops Q rest (a.put o.dst undef) w'):wpList Tryz.prog ops Q (o :: rest) a w:=by
 refine wpList_plain hg fun K' hK'=>?_
 obtain ⟨⟨D,hD,hM,hat⟩,hB,hb⟩:=hown
 obtain ⟨w',hrun,r1,r2⟩:=hD.update kwLaw Tryz.underlying172 (by unfold maxLen;omega) (keyOf_string_mk (s:=s) Tryz.underlying9 (by unfold maxLen;omega)) (plainElem_bool Tryz.underlying4 true)
 unfold Oper.wp
 simp [execOp,hop,hm,hx,hv,hrun,Result.andThen]
 exact hK' _ _ (hK _ (kw_put _ hB hb hM hat r1 r2))
def KwRes (w w':World)(n:Nat)(v:Value):Prop:=(v=.map none∧kwOf n=[]∧w=w')∨∃ b,v=.map (some b)∧KwMap w w' b (kwOf n).reverse
theorem kw_none (n:Nat)(h:n < 2∨7 < n):kwOf n=[]:=by
 unfold kwOf
 rw [List.filter_eq_nil_iff]
 intro k hk
 have:k.length=2∨k.length=3∨k.length=4∨k.length=5∨k.length=6∨k.length=7:=by
  have:kwList.all (fun k=>k.length == 2 || k.length == 3 || k.length == 4 || k.length == 5 || k.length == 6 || k.length == 7)=true:=by decide
  have:=List.all_eq_true.1 this k hk
  simp only [Bool.or_eq_true,beq_iff_eq] at this
  omega
 simp;omega
def KwPost (w:World)(n:Nat)(e:Ending)(w':World):Prop:=∃ v,e=.returned v∧KwRes w w' n v
theorem KwPost.nil {w:World}{n:Nat}(h:kwOf n=[]):KwPost w n (.returned (.map none)) w:=⟨_,rfl,.inl ⟨rfl,h,rfl⟩⟩
theorem KwPost.map {w w':World}{n b:Nat}{ks:List (List UInt8)}(h:KwMap w w' b ks)(e:ks=(kwOf n).reverse):KwPost w n (.returned (.map (some b))) w':=⟨_,rfl,.inr ⟨b,rfl,e ▸ h⟩⟩
set_option maxRecDepth 100000 in
set_option maxHeartbeats 1000000 in
theorem keywordsOf_any (n:Nat)(w:World):Calls Tryz.prog 148 #[.int .i64 n] w (KwPost w n):=by
 have hmm:=@run_makeMap Tryz.prog
 have hmade:=kw_made w
 by_cases hr:n < 2∨7 < n
 ·have g2:((n:Int) == 2)=false:=by simp;omega
  have g3:((n:Int) == 3)=false:=by simp;omega
  have g4:((n:Int) == 4)=false:=by simp;omega
  have g5:((n:Int) == 5)=false:=by simp;omega
  have g6:((n:Int) == 6)=false:=by simp;omega
  have g7:((n:Int) == 7)=false:=by simp;omega
  have HR:=Lib.hid (kw_none n hr)
  clear hmade hr
  go_enter Tryz.func148,Tryz.ntmps148
  go_wp2
  go_ret
  exact KwPost.nil HR.out
 ·obtain rfl | rfl | rfl | rfl | rfl | rfl:n=2∨n=3∨n=4∨n=5∨n=6∨n=7:=by omega
  all_goals
   clear hr
   go_enter Tryz.func148,Tryz.ntmps148
   go_wp2_with (first | (refine wpList_insert_kw _ rfl _ _ _ rfl _ _ rfl hmade (by decide) _ rfl (by decide) rfl ?_;clear hmade;intro w1 hmade))
  all_goals
   go_ret
   exact KwPost.map hmade (by decide)
set_option maxRecDepth 100000 in
theorem kw_lookup {w w':World}{n:Nat}{v:Value}(h:KwRes w w' n v)(s:ByteArray)(hs:s.size≤maxLen) :
  (Instr.lookup 172 v (.string s) false).run Tryz.prog w'=.ok (.bool ((kwOf n).contains s.data.toList)) w':=by
 have hk:=keyOf_string_mk (s:=s) Tryz.underlying9 hs
 rcases h with ⟨rfl,h0,rfl⟩ | ⟨b,rfl,⟨D,hD,hM,hat⟩,hB,hb⟩
 ·rw [h0]
  exact Maps.look_nil false kwLaw Tryz.underlying172 (zero4 w) hk
 ·obtain ⟨v,ps,hrun,hv⟩:=hD.lookup kwLaw Tryz.underlying172 (zero4 w') (plainElem_bool Tryz.underlying4 false) hk
  rw [hat,List.contains_reverse] at hv
  rw [hrun]
  congr 1
  unfold plainElem at hv
  rw [Tryz.underlying4] at hv
  cases v <;> simp at hv
  rw [hv.1]
  congr 1
  rw [Bool.eq_iff_iff,List.contains_iff_mem,decide_eq_true_iff]
theorem KwRes.below {w w':World}{n:Nat}{v:Value}(h:KwRes w w' n v):Below w.heap.size w w':=by
 rcases h with ⟨rfl,h0,rfl⟩ | ⟨b,rfl,⟨D,hD,hM,hat⟩,hB,hb⟩
 ·exact Below.refl _ _
 ·exact hB
set_option maxHeartbeats 1000000 in
theorem Keyword_any (s:ByteArray)(w:World)(hs:s.size≤maxLen):Calls Tryz.prog 136 #[.string s] w fun e w'=>e=.returned (.bool (isKw s.data.toList))∧Below w.heap.size w w':=by
 have HK:=Lib.hid (show isKw s.data.toList=decide (s.data.toList∈kwOf s.size) by rw [isKw_of,len_data];rw [Bool.eq_iff_iff,List.contains_iff_mem,decide_eq_true_iff])
 go_enter Tryz.func136,Tryz.ntmps136
 go_wp2_with (go_at_call 148;refine (keywordsOf_any _ _).mono ?_;rintro e w' ⟨v,rfl,hv⟩;have hl:=kw_lookup hv s hs;have HB:=Lib.hid hv.below;clear hv)
 go_ret
 exact ⟨ret_bool HK.out.symm,HB.out⟩
end Go.Proofs.YtpjabnemkmdobaaGreatDoor
namespace Go.Proofs.YtpjabnemkmdobaaGreatDoor
open Go.RowKit
theorem kindI_3 {c:Int}(h:kindI c=3):48≤c∧c≤57:=by
 unfold kindI at h
 repeat' split at h
 all_goals omega
theorem go_digit {n:Int}{c:UInt8}{r:List UInt8}(h:kindI c.toNat=3)(hn:10*n+((c.toNat:Int) - 48)≤999999999):intGo n (c :: r)=intGo (10*n+((c.toNat:Int) - 48)) r:=by
 simp only [intGo];rw [if_pos (show kb c=3 from h),if_neg (by omega)]
theorem go_large {n:Int}{c:UInt8}{r:List UInt8}(h:kindI c.toNat=3)(hn:999999999 < 10*n+((c.toNat:Int) - 48)):intGo n (c :: r)=none:=by
 simp only [intGo];rw [if_pos (show kb c=3 from h),if_pos hn]
theorem go_other {n:Int}{c:UInt8}{r:List UInt8}(h:¬ kindI c.toNat=3):intGo n (c :: r)=none:=by
 simp only [intGo];rw [if_neg (show ¬ kb c=3 from h)]
def IntRes (o:Option Int):Ending:=.returned (.tuple #[.int .i64 (o.getD 0),.bool o.isSome])
theorem IntRes_none {o:Option Int}(h:o=none):Ending.returned (.tuple #[.int .i64 0,.bool false])=IntRes o:=by rw [h];rfl
theorem IntRes_some {o:Option Int}{n:Int}(h:o=some n):Ending.returned (.tuple #[.int .i64 n,.bool true])=IntRes o:=by rw [h];rfl
set_option maxHeartbeats 1000000 in
theorem integer_any (s:ByteArray)(w:World)(hs:s.size≤maxLen) :
  Calls Tryz.prog 135 #[.string s] w fun e w'=>e=IntRes (integerS s.data.toList)∧Below w.heap.size w w':=by
 unfold maxLen at hs
 by_cases h0:s.size=0
 ·have he1:=nil_toList h0
  have he2:s.toList.isEmpty=true:=by rw [he1];rfl
  have HR:=Lib.hid (show integerS s.data.toList=none by rw [← ByteArray.toList_eq,he1];rfl)
  clear he1 h0
  go_enter Tryz.func135,Tryz.ntmps135
  go_wp2
  go_ret2
  exact ⟨IntRes_none HR.out,Below.refl _ _⟩
 have he2:=cons_toList h0
 have h00:0 < s.size:=by omega
 have g48:(((s[0]'h00).toNat:Int) == 48)=(s[0] == 48):=beq_u8 (by decide)
 have hd0:s.data.toList=s[0] :: s.data.toList.drop 1:=drop_cons s 0 h00
 by_cases hz:1 < s.size∧s[0]=48
 ·have HR:=Lib.hid (show integerS s.data.toList=none by
   rw [hd0];simp only [integerS];rw [if_pos];simp only [Bool.and_eq_true,decide_eq_true_eq,beq_iff_eq];exact ⟨by rw [List.length_drop,len_data];omega,hz.2⟩)
  have b48:(((s[0]'h00).toNat:Int) == 48)=true:=by rw [g48,hz.2];rfl
  have h1:=hz.1
  clear hz g48 hd0 h0
  go_enter Tryz.func135,Tryz.ntmps135
  go_wp2
  go_ret2
  exact ⟨IntRes_none HR.out,Below.refl _ _⟩
 have HI:=Lib.hid (show integerS s.data.toList=intGo 0 s.data.toList by
  rw [hd0];simp only [integerS];rw [if_neg]
  simp only [Bool.and_eq_true,decide_eq_true_eq,beq_iff_eq];rw [List.length_drop,len_data];intro h;exact hz ⟨by omega,h.2⟩)
 clear hd0 h0
 have main:∀ (Z:(s.size≤1)∨((((s[0]'h00).toNat:Int) == 48)=false∧1 < s.size)),Calls Tryz.prog 135 #[.string s] w fun e w'=>e=IntRes (integerS s.data.toList)∧Below w.heap.size w w':=by
  intro Z
  rcases Z with Z | ⟨Z,Z1⟩
  all_goals
   clear g48 hz
   go_enter Tryz.func135,Tryz.ntmps135
   go_wp2
   go_loopw [2] (fun v wr=>∃ (pos:Nat) (n:Int),wr.heap[w.heap.size]?=some (.stringIter s pos)∧pos≤s.size∧Below w.heap.size w wr∧v=.int .i64 n∧0≤n∧n≤999999999∧Hid (integerS s.data.toList=intGo n (s.data.toList.drop pos))) (fun _ wr=>s.size - wr.iterPos w.heap.size)
   case atStart=>exact ⟨0,0,World.iter_heap w s 0,by omega,(Below.refl _ _).alloc (Nat.le_refl _) _,rfl,by omega,by omega,HI⟩
   case round =>
    clear HI
    obtain ⟨pos,n,hit,hle,hbw,rfl,hn0,hn1,HA⟩:=hrel
    have hpos0:=Lib.hid (iterPos_of hit)
    by_cases hp:pos < s.size
    ·have hd:=Lib.hid (drop_cons s pos hp)
     by_cases ha:(s[pos]'hp).toNat < 128
     ·have hnx:∀ ty,(Instr.next (.pointer (some ⟨w.heap.size,0,none⟩)) true ty).run Tryz.prog wr=_:=fun ty=>Lib.run_next_ascii_at wr w.heap.size s pos ty hit hp ha
      have hit2:=Lib.iterAt_heap wr w.heap.size s pos (pos+1) hit
      have hbw2:=Lib.below_iterAt hbw (k:=w.heap.size) (Nat.le_refl _) s (pos+1)
      obtain ⟨W1,hW1⟩:∃ W1,W1=wr.iterAt w.heap.size s (pos+1):=⟨_,rfl⟩
      rw [← hW1] at hnx hit2 hbw2
      clear hW1 hit hbw
      by_cases hk3:kindI ((s[pos]'hp).toNat:Int)=3
      ·have hc:=kindI_3 hk3
       have hk:(kindI ((s[pos]'hp).toNat:Int) != 3)=false:=by rw [hk3];rfl
       by_cases hlg:999999999 < 10*n+(((s[pos]'hp).toNat:Int) - 48)
       ·have HR:=Lib.hid (show integerS s.data.toList=none by rw [HA.out,hd.out];exact go_large hk3 hlg)
        clear hk3 HA hd
        go_wp2_with (go_at_call 133;refine (kindOf_any _ _).mono ?_;rintro e w' ⟨rfl,rfl⟩)
        go_ret2
        exact ⟨IntRes_none HR.out,hbw2⟩
       ·have HA2:Hid (integerS s.data.toList=intGo (10*n+(((s[pos]'hp).toNat:Int) - 48)) (s.data.toList.drop (pos+1))):=by
         show _=_;rw [HA.out,hd.out];exact go_digit hk3 (by omega)
        clear hk3 HA hd
        go_wp2_with (go_at_call 133;refine (kindOf_any _ _).mono ?_;rintro e w' ⟨rfl,rfl⟩)
        go_roundw
        case rel=>exact ⟨pos+1,_,hit2,by omega,hbw2,rfl,by omega,by omega,HA2⟩
        case measure=>rw [iterPos_of hit2,hpos0.out];omega
      ·have hk:(kindI ((s[pos]'hp).toNat:Int) != 3)=true:=by simpa using hk3
       have HR:=Lib.hid (show integerS s.data.toList=none by rw [HA.out,hd.out];exact go_other hk3)
       clear hk3 HA hd
       go_wp2_with (go_at_call 133;refine (kindOf_any _ _).mono ?_;rintro e w' ⟨rfl,rfl⟩)
       go_ret2
       exact ⟨IntRes_none HR.out,hbw2⟩
     ·have hdh:=decode_hi s pos hp (by omega)
      have hk:(kindI ((Utf8.decode s pos).1:Int) != 3)=true:=by rw [kindI_hi _ (by omega)];rfl
      have hnx:∀ ty,(Instr.next (.pointer (some ⟨w.heap.size,0,none⟩)) true ty).run Tryz.prog wr=_:=fun ty=>Lib.run_next_any_at wr w.heap.size s pos ty hit hp
      have HR:=Lib.hid (show integerS s.data.toList=none by
       rw [HA.out,hd.out];exact go_other (fun h=>by have:=kindI_3 h;omega))
      have hbw2:=Lib.below_iterAt hbw (k:=w.heap.size) (Nat.le_refl _) s (pos+(Utf8.decode s pos).2)
      obtain ⟨W1,hW1⟩:∃ W1,W1=wr.iterAt w.heap.size s (pos+(Utf8.decode s pos).2):=⟨_,rfl⟩
      rw [← hW1] at hnx hbw2
      clear hW1 hit hbw hpos0 HA hd
      go_wp2_with (go_at_call 133;refine (kindOf_any _ _).mono ?_;rintro e w' ⟨rfl,rfl⟩)
      go_ret2
      exact ⟨IntRes_none HR.out,hbw2⟩
    ·have hnx:∀ ty,(Instr.next (.pointer (some ⟨w.heap.size,0,none⟩)) true ty).run Tryz.prog wr=_:=fun ty=>Lib.run_next_end_at wr w.heap.size s pos ty hit hp
     have HR:=Lib.hid (show integerS s.data.toList=some n by rw [HA.out,drop_end s pos hp];rfl)
     clear hit hpos0 HA
     go_wp2
     go_ret2
     exact ⟨IntRes_some HR.out,hbw⟩
 apply main
 by_cases h1:1 < s.size
 ·exact .inr ⟨by rw [g48];simpa using fun e=>hz ⟨h1,e⟩,h1⟩
 ·exact .inl (by omega)
def symVals:Array Value:=(symList.map fun l=>Value.string (strB l)).toArray
def symB (k:Nat):ByteArray:=strB (symList.getD k [])
def Syms (w:World):Prop:=∃ t fr,w.heap[1]?=some (.cells symVals t fr)
theorem Syms.below {w w':World}{B:Nat}(h:Syms w)(hb:Below B w w')(hB:1 < B):Syms w':=by
 obtain ⟨t,fr,e⟩:=h;exact ⟨t,fr,(hb.block 1 hB).trans e⟩
theorem Syms.grown {w w':World}{row:Option Nat}(h:Syms w)(hg:w.grownBy w' row)(hne:some 1≠row):Syms w':=by
 obtain ⟨t,fr,e⟩:=h;exact ⟨t,fr,(hg.block 1 (Array.getElem?_eq_some_iff.1 e).1 hne).trans e⟩
theorem Syms.pos {w:World}(h:Syms w):1 < w.heap.size:=by obtain ⟨t,fr,e⟩:=h;exact (Array.getElem?_eq_some_iff.1 e).1
theorem sym_ix (k:Nat)(hk:k < 20)(w:World):(Instr.index 163 (.agg symVals) (.int .i64 (k:Int))).run Tryz.prog w=.ok (.string (symB k)) w:=by
 have:k=0∨k=1∨k=2∨k=3∨k=4∨k=5∨k=6∨k=7∨k=8∨k=9∨k=10∨k=11∨k=12∨k=13∨k=14∨k=15∨k=16∨k=17∨k=18∨k=19:=by omega
 rcases this with rfl | rfl | rfl | rfl | rfl | rfl | rfl | rfl | rfl | rfl | rfl | rfl | rfl | rfl | rfl | rfl | rfl | rfl | rfl | rfl <;> (clear hk;show _=_;kernel_rfl)
theorem sym_eq (s:ByteArray)(k:Nat):(s.toList == (symB k).toList)=(s.data.toList == symList.getD k []):=by
 rw [ByteArray.toList_eq,ByteArray.toList_eq];rfl
theorem isSym_true {l:List UInt8}(k:Nat)(hk:k < 20)(h:symList.getD k []=l):isSym l=true:=by
 unfold isSym
 rw [List.contains_iff_mem,← h,List.getD_eq_getElem?_getD,List.getElem?_eq_getElem (by have:symList.length=20:=rfl;omega)]
 exact List.getElem_mem _
theorem isSym_false {l:List UInt8}(h:∀ j,j < 20→symList.getD j []≠l):isSym l=false:=by
 unfold isSym
 rw [Bool.eq_false_iff,ne_eq,List.contains_iff_mem]
 intro hm
 obtain ⟨j,hj,e⟩:=List.getElem_of_mem hm
 have hl:symList.length=20:=rfl
 refine h j (by omega) ?_
 rw [List.getD_eq_getElem?_getD,List.getElem?_eq_getElem hj];exact e
set_option maxHeartbeats 400000 in
theorem isSymbol_any (s:ByteArray)(w:World)(hS:Syms w) :
  Calls Tryz.prog 138 #[.string s] w fun e w'=>e=.returned (.bool (isSym s.data.toList))∧w=w':=by
 obtain ⟨tt,fr,hg⟩:=hS
 go_enter Tryz.func138,Tryz.ntmps138
 go_wp2_with (refine wpList_load_row rfl 163 _ rfl 1 rfl tt _ fr _ hg Tryz.underlying163 rfl (by kernel_rfl) ?_)
 clear hg
 go_loop [6] (fun i=>∃ k:Nat,k≤20∧i=.int .i64 (k:Int)∧Hid (∀ j,j < k→symList.getD j []≠s.data.toList)) (fun i=>20 - (intOf i).toNat)
 case atStart=>exact ⟨0,by omega,rfl,fun j h=>by omega⟩
 case round =>
  obtain ⟨k,hk,rfl,HA⟩:=hrel
  by_cases hlt:k < 20
  ·have hix:=sym_ix k hlt
   have Hix:=Lib.hid (sym_eq s k)
   by_cases he:symList.getD k []=s.data.toList
   ·have hb:(s.toList == (symB k).toList)=true:=by rw [Hix.out,he];simp
    have HR:=Lib.hid (show isSym s.data.toList=true from isSym_true k hlt he)
    clear he HA
    go_wp2_with fail
    go_ret
    exact ⟨ret_bool HR.out.symm,rfl⟩
   ·have hb:(s.toList == (symB k).toList)=false:=by rw [Hix.out];simpa using fun e=>he e.symm
    have HA2:Hid (∀ j,j < k+1→symList.getD j []≠s.data.toList):=fun j hj=>by
     by_cases e:j=k
     ·subst e;exact he
     ·exact HA.out j (by omega)
    clear he HA
    go_wp2_with fail
    go_round
    case rel=>exact ⟨k+1,by omega,by go_num,HA2⟩
    case measure=>simp [intOf];omega
  ·obtain rfl:k=20:=by omega
   have HR:=Lib.hid (show isSym s.data.toList=false from isSym_false HA.out)
   clear HA
   go_wp2_with fail
   go_ret
   exact ⟨ret_bool HR.out.symm,rfl⟩
theorem symAt_first (l:List UInt8)(k:Nat)(hk:k < 20)(h:(symList.getD k []).isPrefixOf l=true)(hn:∀ j,j < k→(symList.getD j []).isPrefixOf l=false):symAt l=symList.getD k []:=by
 unfold symAt
 have e:symList.find? (fun s=>s.isPrefixOf l)=some (symList.getD k []):=by
  rw [List.find?_eq_some_iff_getElem]
  refine ⟨h,k,by simpa [symList] using hk,?_,fun j hj=>?_⟩
  ·rw [List.getD_eq_getElem?_getD,List.getElem?_eq_getElem (by simpa [symList] using hk)];rfl
  ·have:=hn j hj
   rw [List.getD_eq_getElem?_getD,List.getElem?_eq_getElem (by have:symList.length=20:=rfl;omega)] at this
   simpa using this
 rw [e];rfl
theorem symAt_none (l:List UInt8)(hn:∀ j,j < 20→(symList.getD j []).isPrefixOf l=false):symAt l=[]:=by
 unfold symAt
 have e:symList.find? (fun s=>s.isPrefixOf l)=none:=by
  rw [List.find?_eq_none]
  intro x hx
  obtain ⟨j,hj,rfl⟩:=List.getElem_of_mem hx
  have:=hn j (by simpa [symList] using hj)
  rw [List.getD_eq_getElem?_getD,List.getElem?_eq_getElem hj] at this
  exact fun h2=>by simp only [Option.getD_some] at this;rw [this] at h2;cases h2
 rw [e];rfl
end Go.Proofs.YtpjabnemkmdobaaGreatDoor
namespace Go.Proofs
open Go.Shelf
def Tryz.lays156_ren:Go.Shelf.Ren:=⟨fun | 156=>70 | 165=>103 | 166=>67 | 169=>16 | 240=>101 | 241=>128 | 276=>126 | 277=>146 | n=>n,fun | 31=>23 | 9=>9 | 3=>3 | 4=>4 | 0=>0 | 20=>20 | 72=>47 | 76=>95 | 70=>44 | 37=>45 | 75=>94 | 127=>67 | 164=>155 | 5=>5 | 80=>43 | n=>n,fun | n=>n⟩
theorem Tryz.lays156:Go.Proofs.Lays.n156 Tryz.prog Tryz.lays156_ren:={
 mixed:=by kernel_rfl
 f156:=Tryz.func70.trans (congrArg some (by kernel_rfl))
 f165:=Tryz.func103.trans (congrArg some (by kernel_rfl))
 f166:=Tryz.func67.trans (congrArg some (by kernel_rfl))
 f169:=Tryz.func16.trans (congrArg some (by kernel_rfl))
 f240:=Tryz.func101.trans (congrArg some (by kernel_rfl))
 f241:=Tryz.func128.trans (congrArg some (by kernel_rfl))
 f276:=Tryz.func126.trans (congrArg some (by kernel_rfl))
 f277:=Tryz.func146.trans (congrArg some (by kernel_rfl))
 t0:=Tryz.underlying0
 a0:=Tryz.isAgg0
 z0:=Tryz.sizeOf0
 v0:=Tryz.zeroValue0
 t3:=Tryz.underlying3
 a3:=Tryz.isAgg3
 z3:=Tryz.sizeOf3
 v3:=Tryz.zeroValue3
 t4:=Tryz.underlying4
 a4:=Tryz.isAgg4
 z4:=Tryz.sizeOf4
 v4:=Tryz.zeroValue4
 t9:=Tryz.underlying9
 a9:=Tryz.isAgg9
 z9:=Tryz.sizeOf9
 v9:=Tryz.zeroValue9
 t20:=Tryz.underlying20
 a20:=Tryz.isAgg20
 z20:=Tryz.sizeOf20
 v20:=Tryz.zeroValue20
 t31:=Tryz.underlying23
 a31:=Tryz.isAgg23
 z31:=Tryz.sizeOf23
 v31:=Tryz.zeroValue23
 t37:=Tryz.underlying45
 a37:=Tryz.isAgg45
 z37:=Tryz.sizeOf45
 v37:=Tryz.zeroValue45
 t70:=Tryz.underlying44
 a70:=Tryz.isAgg44
 z70:=Tryz.sizeOf44
 v70:=Tryz.zeroValue44
 t72:=Tryz.underlying47
 a72:=Tryz.isAgg47
 z72:=Tryz.sizeOf47
 v72:=Tryz.zeroValue47
 t75:=Tryz.underlying94
 a75:=Tryz.isAgg94
 z75:=Tryz.sizeOf94
 v75:=Tryz.zeroValue94
 t76:=Tryz.underlying95
 a76:=Tryz.isAgg95
 z76:=Tryz.sizeOf95
 v76:=Tryz.zeroValue95
 t127:=Tryz.underlying67
 a127:=Tryz.isAgg67
 z127:=Tryz.sizeOf67
 v127:=Tryz.zeroValue67
 t164:=Tryz.underlying155
 a164:=Tryz.isAgg155
 z164:=Tryz.sizeOf155
 v164:=Tryz.zeroValue155 }
theorem Tryz.Builder_Extra_156:Builder.Extra Tryz.prog Tryz.lays156_ren:={
 sizeBuilder:=by kernel_rfl
 liesBuilder:=by kernel_rfl
 t5:=Tryz.underlying5
 a5:=Tryz.isAgg5
 z5:=Tryz.sizeOf5
 v5:=Tryz.zeroValue5
 infoByte:=by kernel_rfl
 cellsByte:=by kernel_rfl
 sizeByte:=by kernel_rfl
 neB5:=by decide }
open Go.RowKit in
theorem Tryz.strings_Join_none (a:Option Addr)(c:Nat)(sep:ByteArray)(w:World) :
  Calls Tryz.prog 70 #[.slice a 0 c,.string sep] w fun e w'=>e=.returned (.string ⟨#[]⟩)∧w'=w:=Any.strings_Join_none Tryz.lays156 Tryz.Builder_Extra_156 a c sep w
open Go.RowKit in
theorem Tryz.strings_Join (bk o c:Nat)(xs:List ByteArray)(sep:ByteArray)(w:World)(hcells:∀ (j:Nat) x,xs[j]?=some x→w.cell? ⟨bk,o+j,none⟩=some (.string x))(hbk:bk < w.heap.size)(hN:xs.length≤140737488355328)(hcap:xs.length≤c)(hlen:(Lib.join (xs.map (·.data.toList)) sep.data.toList).length≤140737488355328) :
  Calls Tryz.prog 70 #[.slice (some ⟨bk,o,none⟩) xs.length c,.string sep] w fun e w'=>e=.returned (.string ⟨(Lib.join (xs.map (·.data.toList)) sep.data.toList).toArray⟩)∧Below w.heap.size w w':=Any.strings_Join Tryz.lays156 Tryz.Builder_Extra_156 bk o c xs sep w hcells hbk hN hcap hlen
def Tryz.laysM171_ren:Go.Shelf.Ren:=⟨fun | 171=>102 | 243=>127 | 246=>145 | 283=>154 | 284=>155 | 285=>156 | 286=>157 | 129=>162 | 317=>161 | 318=>163 | 319=>164 | 320=>165 | 337=>168 | 338=>169 | n=>n,fun | 3=>3 | 9=>9 | 2=>2 | 4=>4 | 171=>177 | 0=>0 | 53=>178 | 37=>45 | 5=>5 | 173=>181 | 212=>188 | 51=>189 | 20=>20 | 213=>190 | 46=>191 | 232=>194 | 233=>195 | n=>n,fun | 17=>3 | 18=>4 | 19=>5 | n=>n⟩
theorem Tryz.laysM171:Go.Proofs.LaysM.n171 Tryz.prog Tryz.laysM171_ren:={
 mixed:=by kernel_rfl
 f129:=Tryz.func162.trans (congrArg some (by kernel_rfl))
 f171:=Tryz.func102.trans (congrArg some (by kernel_rfl))
 f243:=Tryz.func127.trans (congrArg some (by kernel_rfl))
 f246:=Tryz.func145.trans (congrArg some (by kernel_rfl))
 f283:=Tryz.func154.trans (congrArg some (by kernel_rfl))
 f284:=Tryz.func155.trans (congrArg some (by kernel_rfl))
 f285:=Tryz.func156.trans (congrArg some (by kernel_rfl))
 f286:=Tryz.func157.trans (congrArg some (by kernel_rfl))
 f317:=Tryz.func161.trans (congrArg some (by kernel_rfl))
 f318:=Tryz.func163.trans (congrArg some (by kernel_rfl))
 f319:=Tryz.func164.trans (congrArg some (by kernel_rfl))
 f320:=Tryz.func165.trans (congrArg some (by kernel_rfl))
 f337:=Tryz.func168.trans (congrArg some (by kernel_rfl))
 f338:=Tryz.func169.trans (congrArg some (by kernel_rfl))
 t0:=Tryz.underlying0
 a0:=Tryz.isAgg0
 z0:=Tryz.sizeOf0
 v0:=Tryz.zeroValue0
 t2:=Tryz.underlying2
 a2:=Tryz.isAgg2
 z2:=Tryz.sizeOf2
 v2:=Tryz.zeroValue2
 t3:=Tryz.underlying3
 a3:=Tryz.isAgg3
 z3:=Tryz.sizeOf3
 v3:=Tryz.zeroValue3
 t4:=Tryz.underlying4
 a4:=Tryz.isAgg4
 z4:=Tryz.sizeOf4
 v4:=Tryz.zeroValue4
 t5:=Tryz.underlying5
 a5:=Tryz.isAgg5
 z5:=Tryz.sizeOf5
 v5:=Tryz.zeroValue5
 t9:=Tryz.underlying9
 a9:=Tryz.isAgg9
 z9:=Tryz.sizeOf9
 v9:=Tryz.zeroValue9
 t20:=Tryz.underlying20
 a20:=Tryz.isAgg20
 z20:=Tryz.sizeOf20
 v20:=Tryz.zeroValue20
 t37:=Tryz.underlying45
 a37:=Tryz.isAgg45
 z37:=Tryz.sizeOf45
 v37:=Tryz.zeroValue45
 t46:=Tryz.underlying191
 a46:=Tryz.isAgg191
 z46:=Tryz.sizeOf191
 v46:=Tryz.zeroValue191
 t51:=Tryz.underlying189
 a51:=Tryz.isAgg189
 z51:=Tryz.sizeOf189
 v51:=Tryz.zeroValue189
 t53:=Tryz.underlying178
 a53:=Tryz.isAgg178
 z53:=Tryz.sizeOf178
 v53:=Tryz.zeroValue178
 t171:=Tryz.underlying177
 a171:=Tryz.isAgg177
 z171:=Tryz.sizeOf177
 v171:=Tryz.zeroValue177
 t173:=Tryz.underlying181
 a173:=Tryz.isAgg181
 z173:=Tryz.sizeOf181
 v173:=Tryz.zeroValue181
 t212:=Tryz.underlying188
 a212:=Tryz.isAgg188
 z212:=Tryz.sizeOf188
 v212:=Tryz.zeroValue188
 t213:=Tryz.underlying190
 a213:=Tryz.isAgg190
 z213:=Tryz.sizeOf190
 t232:=Tryz.underlying194
 a232:=Tryz.isAgg194
 z232:=Tryz.sizeOf194
 v232:=Tryz.zeroValue194
 t233:=Tryz.underlying195
 a233:=Tryz.isAgg195
 z233:=Tryz.sizeOf195
 v233:=Tryz.zeroValue195
 g17:=by kernel_rfl
 g18:=by kernel_rfl
 g19:=by kernel_rfl
 i0:=by kernel_rfl
 i2:=by kernel_rfl
 i3:=by kernel_rfl
 i4:=by kernel_rfl
 i5:=by kernel_rfl
 i9:=by kernel_rfl
 i20:=by kernel_rfl
 i37:=by kernel_rfl
 i46:=by kernel_rfl
 i51:=by kernel_rfl
 i53:=by kernel_rfl
 i171:=by kernel_rfl
 i173:=by kernel_rfl
 i212:=by kernel_rfl
 i232:=by kernel_rfl
 i233:=by kernel_rfl
 m17:=by kernel_rfl
 m18:=by kernel_rfl
 m19:=by kernel_rfl }
open Go.RowKit Go.Sort Go.Lib in
theorem Tryz.strconv_Itoa (n:Int)(h0:-9223372036854775808≤n)(h1:n≤9223372036854775807)(w:World)(htab:Lib.TabIs Tryz.prog w "internal/strconv.uint64pow10" .u64 Lib.pow10Tab) :
  Calls Tryz.prog 102 #[.int .i64 n] w fun e w'=>e=.returned (.string ⟨(Lib.itoa n).toArray⟩)∧∃ k os,w'=grow (w.drewN k) os:=Any.strconv_Itoa Tryz.laysM171 n h0 h1 w htab
def Tryz.lays99_ren:Go.Shelf.Ren:=⟨fun | 99=>134 | 206=>147 | n=>n,fun | 9=>9 | 4=>4 | 3=>3 | n=>n,fun | n=>n⟩
theorem Tryz.lays99:Go.Proofs.Lays.n99 Tryz.prog Tryz.lays99_ren:={
 mixed:=by kernel_rfl
 f99:=Tryz.func134.trans (congrArg some (by kernel_rfl))
 f206:=Tryz.func147.trans (congrArg some (by kernel_rfl))
 t3:=Tryz.underlying3
 a3:=Tryz.isAgg3
 z3:=Tryz.sizeOf3
 v3:=Tryz.zeroValue3
 t4:=Tryz.underlying4
 a4:=Tryz.isAgg4
 z4:=Tryz.sizeOf4
 v4:=Tryz.zeroValue4
 t9:=Tryz.underlying9
 a9:=Tryz.isAgg9
 z9:=Tryz.sizeOf9
 v9:=Tryz.zeroValue9 }
open Go.RowKit Go.Lib in
theorem Tryz.strings_HasPrefix (s p:ByteArray)(w:World) :
  Calls Tryz.prog 134 #[.string s,.string p] w fun e w'=>e=.returned (.bool (Lib.hasPrefix s.data.toList p.data.toList))∧w'=w:=Any.strings_HasPrefix Tryz.lays99 s p w
end Go.Proofs
namespace Go.Proofs.YtpjabnemkmdobaaGreatDoor
open Go.RowKit
theorem drop_data (s:ByteArray)(p:Nat):(s.extract p s.size).data.toList=s.data.toList.drop p:=by
 rw [Lib.extract_data,List.take_of_length_le]
 rw [List.length_drop,len_data];omega
theorem symB_prefix (s:ByteArray)(p k:Nat)(hps:p≤s.size)(h:(symList.getD k []).isPrefixOf (s.data.toList.drop p)=true):p+(symB k).size≤s.size∧s.extract p (p+(symB k).size)=symB k:=by
 rw [List.isPrefixOf_iff_prefix] at h
 obtain ⟨t,ht⟩:=h
 have hl:(symB k).size=(symList.getD k []).length:=by rw [← len_data];rfl
 have h1:(symList.getD k []).length+t.length=s.size - p:=by rw [← List.length_append,ht,List.length_drop,len_data]
 refine ⟨by omega,?_⟩
 apply Go.WideShapes.bytes_inj
 rw [Lib.extract_data,← ht,hl,show p+(symList.getD k []).length - p=(symList.getD k []).length from by omega,List.take_left']
 ·rfl
 ·rfl
set_option maxHeartbeats 600000 in
theorem symbol_any (b:Nat)(s:ByteArray)(p:Nat)(q:Int)(w:World)(hS:Src w b s p q)(hY:Syms w)(hs:s.size≤30000)(hp:p≤s.size) :
  Calls Tryz.prog 111 #[.pointer (some ⟨b,0,none⟩)] w fun e w'=>e=.returned (.string (strB (symAt (s.data.toList.drop p))))∧Moved w w' b s ((p+(symAt (s.data.toList.drop p)).length:Nat):Int) q:=by
 obtain ⟨tt,fr,hg⟩:=hY
 have HE:=Lib.hid (drop_data s p)
 have HS:=Lib.hid hS
 clear hS
 go_enter Tryz.func111,Tryz.ntmps111
 go_wp2_with (refine wpList_load_row rfl 163 _ rfl 1 rfl tt _ fr _ hg Tryz.underlying163 rfl (by kernel_rfl) ?_)
 clear hg
 go_loopw [6] (fun i wr=>∃ k:Nat,k≤20∧i=.int .i64 (k:Int)∧Hid (Src wr b s p q)∧Hid (w.grownBy wr (some b))∧Hid (∀ j,j < k→(symList.getD j []).isPrefixOf (s.data.toList.drop p)=false)) (fun i _=>20 - (intOf i).toNat)
 case atStart=>exact ⟨0,by omega,rfl,HS,World.grownBy.refl _ _,fun j h=>by omega⟩
 case round =>
  clear HS
  obtain ⟨k,hk,rfl,HS,HG,HA⟩:=hrel
  have h0:=HS.out.c0
  have h1:=HS.out.c1
  by_cases hlt:k < 20
  ·have hix:=sym_ix k hlt
   by_cases he:(symList.getD k []).isPrefixOf (s.data.toList.drop p)=true
   ·have HC:Hid (∀ w,Calls Tryz.prog 134 #[.string (s.extract p s.size),.string (symB k)] w fun e w'=>e=.returned (.bool true)∧w'=w):=fun w =>
     (Tryz.strings_HasPrefix _ _ w).mono fun e w' h=>⟨by rw [h.1];apply ret_bool;rw [HE.out];exact he,h.2⟩
    have HR:=Lib.hid (symAt_first _ k hlt he HA.out)
    have HT:Hid (∀ w:World,Src w b s p q→Calls Tryz.prog 132 #[.pointer (some ⟨b,0,none⟩),.int .i64 ((symB k).size:Int)] w fun e w'=>e=.returned (.string (symB k))∧Moved w w' b s ((p+(symB k).size:Nat):Int) q):=fun w h=>by
     have hx:=symB_prefix s p k hp he
     have:=take_any b s p (symB k).size q w h hs hx.1
     rw [hx.2] at this
     exact this
    clear he HA
    go_wp2_with fail
    go_quiet ((go_at_call 134;exact Calls.quiet_of_same (HC.out _)))
    go_wp2_with (go_at_call 132;refine (HT.out _ (HS.out.drewN nq)).mono ?_;rintro e w' ⟨rfl,HM⟩)
    go_ret
    rw [HR.out]
    refine ⟨rfl,Moved.mk' ?_ (grown_trans (grown_trans HG.out (grown_drewN _ nq _)) HM.2)⟩
    have:=HM.1
    rw [show (symB k).size=(symList.getD k []).length from by rw [← len_data];rfl] at this
    exact this
   ·have HC:Hid (∀ w,Calls Tryz.prog 134 #[.string (s.extract p s.size),.string (symB k)] w fun e w'=>e=.returned (.bool false)∧w'=w):=fun w =>
     (Tryz.strings_HasPrefix _ _ w).mono fun e w' h=>⟨by rw [h.1];apply ret_bool;rw [HE.out];exact Bool.eq_false_iff.2 he,h.2⟩
    have HA2:Hid (∀ j,j < k+1→(symList.getD j []).isPrefixOf (s.data.toList.drop p)=false):=fun j hj=>by
     by_cases e:j=k
     ·subst e;exact Bool.eq_false_iff.2 he
     ·exact HA.out j (by omega)
    clear he HA
    go_wp2_with fail
    go_quiet ((go_at_call 134;exact Calls.quiet_of_same (HC.out _)))
    go_wp2_with fail
    go_roundw
    case rel=>exact ⟨k+1,by omega,by go_num,HS.out.drewN nq,grown_trans HG.out (grown_drewN _ nq _),HA2⟩
    case measure=>simp [intOf];omega
  ·obtain rfl:k=20:=by omega
   have HR:=Lib.hid (symAt_none _ HA.out)
   clear HA
   go_wp2_with fail
   go_ret
   rw [HR.out]
   exact ⟨rfl,Moved.mk' HS.out HG.out⟩
end Go.Proofs.YtpjabnemkmdobaaGreatDoor
