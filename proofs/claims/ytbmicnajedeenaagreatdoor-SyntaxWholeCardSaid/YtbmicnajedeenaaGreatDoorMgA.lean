/- Texts put together by program: Plain Leaf Names Src Space Kw Int Sym Shelf Symb Tok First Iter Range Lex RefA Num. -/
import GoSem.Claim
import Derived.Laws.RangeString
import Derived.Lib.DecodeN
import Derived.Test.YtbmicnajedeenaaGreatDoorProg
import Derived.KernelRfl
import Derived.WalkKit
import Derived.WalkSpells
import Derived.WalkLawsBesides
import Derived.BigQuiet
import Derived.Deep.QuietTactic
import Derived.Lib.Hide
import Derived.Lib.OthersKept
import Derived.Laws.OwnMore
import Derived.Laws.Rows
import Derived.Deep.Draws
import Derived.Deep.AppendLies
import Derived.StringKeys
import Derived.ProofKit
import Derived.Maps.Own
import Derived.Maps.OwnSet
import Derived.Maps.Views
import Derived.Shelf.Strings.Builder1
import Derived.Shelf.Strings.Builder2
import Derived.Shelf.Strings.OnBuilder
import Derived.Shelf.Strings.BuilderF
import Derived.Shelf.Strings.BuilderK
import Derived.Shelf.Strconv.Itoa0
import Derived.Shelf.Strconv.Itoa1
import Derived.Shelf.LaysM
import Derived.Shelf.Strconv.Itoa2
import Derived.Shelf.Strconv.Itoa3
import Derived.Shelf.Strings.Prefix
import Derived.Shelf.Slices.Turned
import Derived.Ground.Names2Prog
import Derived.Shelf.Slices.Clone
import Derived.Lib.AppendIntMem
import Derived.RangeFuncNested
import Derived.RangeFuncBound
import Derived.RangeFuncCalls
import Derived.RangeFuncLeaves
import Derived.RangeFuncBox
import Derived.Shelf.Abstract
import Derived.OwnWalkIn
import Derived.TacticsInMore
import Derived.LoopNIn
import Derived.LoopIn
import Derived.Maps.AppendAt
import Derived.Lib.ItoaLen
/- Plain functions on bytes that say what the lexer does, and their laws. Nothing of the program is named here. -/
namespace Go.Proofs.YtbmicnajedeenaaGreatDoor

/-- the kind of a rune -/
def kindI (c : Int) : Int := if (97 ≤ c ∧ c ≤ 122) ∨ c = 95 then 1 else if 65 ≤ c ∧ c ≤ 90 then 2 else if 48 ≤ c ∧ c ≤ 57 then 3 else 0
def kb (c : UInt8) : Int := kindI c.toNat

theorem kindI_hi (c : Int) (h : 128 ≤ c) : kindI c = 0 := by
  unfold kindI; repeat' split
  all_goals omega

def isNm (first : Int) (l : List UInt8) : Bool :=
  match l with
  | [] => false
  | c :: r => decide (r.length < 12) && (kb c == first) && (c :: r).all (fun c => kb c != 0)

def strB (l : List UInt8) : ByteArray := ⟨l.toArray⟩
theorem strB_data (s : ByteArray) : strB s.data.toList = s := rfl
theorem data_strB (l : List UInt8) : (strB l).data.toList = l := rfl

def kwList : List (List UInt8) := [[102, 117, 110], [108, 101, 116], [114, 101, 99], [105, 110], [105, 102], [116, 104, 101, 110], [101, 108, 115, 101], [109, 97, 116, 99, 104], [100, 111], [104, 97, 110, 100, 108, 101], [115, 104, 97, 108, 108, 111, 119], [110, 97, 109, 101, 100], [109, 97, 115, 107], [117, 115, 105, 110, 103], [99, 108, 111, 115, 101], [114, 101, 115, 117, 109, 101], [100, 114, 111, 112], [114, 101, 116, 117, 114, 110], [116, 114, 117, 101], [102, 97, 108, 115, 101], [100, 97, 116, 97], [101, 102, 102, 101, 99, 116], [111, 110, 99, 101], [100, 101, 102], [109, 97, 105, 110]]
def isKw (l : List UInt8) : Bool := kwList.contains l

def symList : List (List UInt8) := [[61, 61], [45, 62], [40], [41], [123], [125], [91], [93], [44], [59], [58], [46], [61], [60], [62], [124], [64], [43], [45], [42]]
def isSym (l : List UInt8) : Bool := symList.contains l

/-- digits read from the left, from a number on -/
def intGo : Int → List UInt8 → Option Int
  | n, [] => some n
  | n, c :: r => if kb c = 3 then (if 999999999 < 10 * n + ((c.toNat : Int) - 48) then none else intGo (10 * n + ((c.toNat : Int) - 48)) r) else none
def integerS (l : List UInt8) : Option Int :=
  match l with
  | [] => none
  | c :: r => if decide (0 < r.length) && (c == 48) then none else intGo 0 (c :: r)

/-- the token that bytes are: its kind, its string, its number -/
def tokS (l : List UInt8) : Option (Int × List UInt8 × Int) :=
  match integerS l with
  | some n => some (3, [], n)
  | none => if isKw l then some (1, l, 0) else if isNm 1 l then some (0, l, 0) else if isNm 2 l then some (2, l, 0) else if isSym l then some (4, l, 0) else none

def wordLen (l : List UInt8) : Nat := (l.takeWhile (fun c => kb c != 0)).length
def symAt (l : List UInt8) : List UInt8 := (symList.find? (fun s => s.isPrefixOf l)).getD []
def partOf (l : List UInt8) : List UInt8 := if wordLen l = 0 then symAt l else l.take (wordLen l)
/-- how many bytes of space there are, within a comment or not -/
def spLen : Bool → List UInt8 → Nat
  | _, [] => 0
  | cm, c :: r => if c = 10 then 1 + spLen false r else if c = 35 then 1 + spLen true r else if cm || c == 32 || c == 9 then 1 + spLen cm r else 0

structure Tk where
  kind : Int
  s : List UInt8
  n : Int
  pos : Nat

/-- the tokens of a text, and the byte at which the token that was looked for last begins, or would have to -/
def lexF : Nat → Nat → List UInt8 → List Tk × Nat
  | 0, off, _ => ([], off)
  | f + 1, off, l =>
    match tokS (partOf (l.drop (spLen false l))) with
    | none => ([], off + spLen false l)
    | some (k, s, n) =>
      (⟨k, s, n, off + spLen false l⟩ :: (lexF f (off + spLen false l + (partOf (l.drop (spLen false l))).length) (l.drop (spLen false l + (partOf (l.drop (spLen false l))).length))).1,
        (lexF f (off + spLen false l + (partOf (l.drop (spLen false l))).length) (l.drop (spLen false l + (partOf (l.drop (spLen false l))).length))).2)

def lexS (l : List UInt8) : List Tk × Int × Int :=
  if 30000 < l.length then ([], 0, 3) else if (lexF (l.length + 1) 0 l).2 < l.length then ([], (lexF (l.length + 1) 0 l).2, 2) else ((lexF (l.length + 1) 0 l).1, 0, 0)

theorem decode_hi (s : ByteArray) (pos : Nat) (h : pos < s.size) (ha : 128 ≤ (s[pos]'h).toNat) : 128 ≤ (Utf8.decode s pos).1 := by
  have e : s.get! pos = s[pos]'h := by
    simp [ByteArray.get!, getElem!_pos, h]
    rfl
  rw [Lib.decode_at, e]
  unfold Lib.decodeN
  rw [if_neg (by omega)]
  repeat' split
  all_goals simp_all
  all_goals omega

/-! names -/
theorem isNm_true {first : Int} {l : List UInt8} (h0 : 0 < l.length) (hl : l.length ≤ 12) (hf : kb (l[0]'h0) = first) (ha : ∀ (j : Nat) (h : j < l.length), kb (l[j]'h) ≠ 0) : isNm first l = true := by
  cases l with
  | nil => simp at h0
  | cons c r =>
    simp only [isNm, Bool.and_eq_true, decide_eq_true_eq, beq_iff_eq, List.all_eq_true, bne_iff_ne]
    simp only [List.length_cons] at hl
    refine ⟨⟨by omega, hf⟩, fun x hx => ?_⟩
    obtain ⟨j, hj, rfl⟩ := List.getElem_of_mem hx
    exact ha j hj
theorem isNm_long {first : Int} {l : List UInt8} (hl : 12 < l.length) : isNm first l = false := by
  cases l with
  | nil => rfl
  | cons c r => simp only [isNm, List.length_cons] at *; rw [decide_eq_false (by omega)]; rfl
theorem isNm_bad {first : Int} {l : List UInt8} (j : Nat) (h : j < l.length) (hk : kb (l[j]'h) = 0) : isNm first l = false := by
  cases l with
  | nil => rfl
  | cons c r =>
    have : (c :: r).all (fun c => kb c != 0) = false := by
      rw [List.all_eq_false]
      exact ⟨_, List.getElem_mem h, by simp [hk]⟩
    simp only [isNm, this, Bool.and_false]
theorem isNm_first {first : Int} {l : List UInt8} (h0 : 0 < l.length) (hf : kb (l[0]'h0) ≠ first) : isNm first l = false := by
  cases l with
  | nil => rfl
  | cons c r =>
    have : (kb c == first) = false := by simpa using hf
    simp only [isNm, this, Bool.and_false, Bool.false_and]

theorem wordLen_eq : ∀ (l : List UInt8) (k : Nat), k ≤ l.length → (∀ (j : Nat) (h : j < l.length), j < k → kb (l[j]'h) ≠ 0) → (∀ h : k < l.length, kb (l[k]'h) = 0) → wordLen l = k
  | [], k, hk, _, _ => by simp at hk; subst hk; rfl
  | c :: r, 0, _, _, h2 => by
    have := h2 (by simp)
    simp only [List.getElem_cons_zero] at this
    simp [wordLen, this]
  | c :: r, k + 1, hk, h1, h2 => by
    have h0 := h1 0 (by simp) (by omega)
    simp only [List.getElem_cons_zero] at h0
    have ih := wordLen_eq r k (by simpa using hk) (fun j h hj => by have := h1 (j + 1) (by simpa using h) (by omega); simpa using this) (fun h => by have := h2 (by simpa using h); simpa using this)
    simp only [wordLen] at ih
    simp [wordLen, h0, ih]
theorem spLen_le : ∀ (c : Bool) (l : List UInt8), spLen c l ≤ l.length
  | _, [] => by simp [spLen]
  | cm, c :: r => by
    have h1 := spLen_le false r
    have h2 := spLen_le true r
    have h3 := spLen_le cm r
    unfold spLen
    simp only [List.length_cons]
    repeat' split
    all_goals omega
theorem wordLen_le (l : List UInt8) : wordLen l ≤ l.length := by
  unfold wordLen; exact (List.takeWhile_sublist _).length_le

theorem partOf_le (l : List UInt8) : (partOf l).length ≤ l.length := by
  unfold partOf
  split
  · unfold symAt
    cases h : symList.find? (fun s => s.isPrefixOf l) with
    | none => simp
    | some x =>
      have := List.find?_some h
      rw [List.isPrefixOf_iff_prefix] at this
      exact this.length_le
  · rw [List.length_take]; omega
theorem tokS_nil : tokS [] = none := by decide
theorem lexF_none {f p o : Nat} {l : List UInt8} (ho : o = p + spLen false (l.drop p)) (h : tokS (partOf (l.drop o)) = none) : lexF (f + 1) p (l.drop p) = ([], o) := by
  have e : (l.drop p).drop (spLen false (l.drop p)) = l.drop o := by rw [List.drop_drop, ho]
  simp only [lexF]
  rw [e, h]
  simp only []
  rw [ho]
theorem lexF_some {f p o : Nat} {l : List UInt8} {k n : Int} {s : List UInt8} (ho : o = p + spLen false (l.drop p)) (h : tokS (partOf (l.drop o)) = some (k, s, n)) :
    lexF (f + 1) p (l.drop p) = (⟨k, s, n, o⟩ :: (lexF f (o + (partOf (l.drop o)).length) (l.drop (o + (partOf (l.drop o)).length))).1, (lexF f (o + (partOf (l.drop o)).length) (l.drop (o + (partOf (l.drop o)).length))).2) := by
  have e : (l.drop p).drop (spLen false (l.drop p)) = l.drop o := by rw [List.drop_drop, ho]
  have e2 : (l.drop p).drop (spLen false (l.drop p) + (partOf (l.drop o)).length) = l.drop (o + (partOf (l.drop o)).length) := by rw [List.drop_drop, ho]; congr 1; omega
  simp only [lexF]
  rw [e, h]
  simp only []
  rw [e2, ho]
theorem part_pos {l : List UInt8} {x : Int × List UInt8 × Int} (h : tokS (partOf l) = some x) : 0 < (partOf l).length := by
  rcases Nat.eq_zero_or_pos (partOf l).length with h0 | h0
  · rw [List.eq_nil_of_length_eq_zero h0, tokS_nil] at h; cases h
  · exact h0
end Go.Proofs.YtbmicnajedeenaaGreatDoor
/- The leaf functions of the lexer and of its reference: what each returns. -/
namespace Go.Proofs.YtbmicnajedeenaaGreatDoor
open Go.RowKit

theorem ret_int {k : IntKind} {a b : Int} (h : a = b) : Ending.returned (.int k a) = .returned (.int k b) := by rw [h]
theorem ret_bool {a b : Bool} (h : a = b) : Ending.returned (.bool a) = .returned (.bool b) := by rw [h]

set_option maxHeartbeats 400000 in
theorem kindOf_any (c : Int) (w : World) :
    Calls Tryz.prog 127 #[.int .i32 c] w fun e w' => e = .returned (.int .i64 (kindI c)) ∧ w = w' := by
  by_cases h95 : c = 95
  · subst h95
    go_enter Tryz.func127, Tryz.ntmps127
    go_wp2
    go_ret
    exact ⟨ret_int rfl, rfl⟩
  · have hb : (c == 95) = false := by simpa using h95
    go_enter Tryz.func127, Tryz.ntmps127
    go_wp2
    all_goals go_ret
    all_goals refine ⟨ret_int ?_, rfl⟩
    all_goals unfold kindI
    all_goals (clear hb; repeat' split)
    all_goals omega

end Go.Proofs.YtbmicnajedeenaaGreatDoor
/- isName: whether a string is a word with room in a name. -/
namespace Go.Proofs.YtbmicnajedeenaaGreatDoor
open Go.RowKit

theorem iterPos_of {w : World} {k : Nat} {s : ByteArray} {p : Nat} (h : w.heap[k]? = some (.stringIter s p)) : w.iterPos k = p := by simp [World.iterPos, h]
theorem len_data (s : ByteArray) : s.data.toList.length = s.size := by rw [Array.length_toList]; rfl
theorem nil_toList {s : ByteArray} (h : s.size = 0) : s.toList = [] := by
  rw [ByteArray.toList_eq]; apply List.eq_nil_of_length_eq_zero; rw [len_data]; exact h
theorem cons_toList {s : ByteArray} (h : s.size ≠ 0) : s.toList.isEmpty = false := by
  rw [List.isEmpty_eq_false_iff, ByteArray.toList_eq]; intro e; apply h; rw [← len_data, e]; rfl
set_option maxHeartbeats 400000 in
theorem isName_any (s : ByteArray) (first : Int) (w : World) (hs : s.size ≤ maxLen) :
    Calls Tryz.prog 89 #[.string s, .int .i64 first] w fun e w' => e = .returned (.bool (isNm first s.data.toList)) ∧ Below w.heap.size w w' := by
  unfold maxLen at hs
  have hsz : s.data.toList.length = s.size := len_data s
  by_cases h0 : s.size = 0
  · have he1 := nil_toList h0
    have he2 : s.toList.isEmpty = true := by rw [he1]; rfl
    have HR := Lib.hid (show isNm first s.data.toList = false by rw [← ByteArray.toList_eq, he1]; rfl)
    clear he1 h0 hsz
    go_enter Tryz.func89, Tryz.ntmps89
    go_wp2
    go_ret
    exact ⟨ret_bool HR.out.symm, Below.refl _ _⟩
  · have he2 := cons_toList h0
    by_cases h12 : 12 < s.size
    · have HR := Lib.hid (show isNm first s.data.toList = false from isNm_long (by omega))
      clear hsz
      go_enter Tryz.func89, Tryz.ntmps89
      go_wp2
      go_ret
      exact ⟨ret_bool HR.out.symm, Below.refl _ _⟩
    · have HSZ := Lib.hid hsz; clear hsz
      go_enter Tryz.func89, Tryz.ntmps89
      go_wp2
      go_loopw [] (fun wr => ∃ pos : Nat, wr.heap[w.heap.size]? = some (.stringIter s pos) ∧ pos ≤ s.size ∧ Below w.heap.size w wr ∧ Hid (∀ (j : Nat) (h : j < s.size), j < pos → kb s[j] ≠ 0) ∧ Hid (∀ (h : 0 < s.size), 0 < pos → kb s[0] = first)) (fun wr => s.size - wr.iterPos w.heap.size)
      case atStart => exact ⟨0, World.iter_heap w s 0, by omega, (Below.refl _ _).alloc (Nat.le_refl _) _, fun j h h2 => by omega, fun h h2 => by omega⟩
      case round =>
        obtain ⟨pos, hit, hle, hbw, HA, HF⟩ := hrel
        have hpos0 := Lib.hid (iterPos_of hit)
        by_cases hp : pos < s.size
        · by_cases ha : (s[pos]'hp).toNat < 128
          · have hnx : ∀ ty, (Instr.next (.pointer (some ⟨w.heap.size, 0, none⟩)) true ty).run Tryz.prog wr = _ := fun ty => Lib.run_next_ascii_at wr w.heap.size s pos ty hit hp ha
            have hit2 := Lib.iterAt_heap wr w.heap.size s pos (pos + 1) hit
            have hbw2 := Lib.below_iterAt hbw (k := w.heap.size) (Nat.le_refl _) s (pos + 1)
            obtain ⟨W1, hW1⟩ : ∃ W1, W1 = wr.iterAt w.heap.size s (pos + 1) := ⟨_, rfl⟩
            rw [← hW1] at hnx hit2 hbw2
            clear hW1 hit hbw
            by_cases hk0 : kindI ((s[pos]'hp).toNat : Int) = 0
            · have HR := Lib.hid (show isNm first s.data.toList = false from isNm_bad pos (by rw [len_data]; exact hp) hk0)
              clear hpos0 HA HF
              go_wp2_with (go_at_call 127; refine (kindOf_any _ _).mono ?_; rintro e w' ⟨rfl, rfl⟩)
              go_ret
              exact ⟨ret_bool HR.out.symm, hbw2⟩
            · have hk1 : (kindI ((s[pos]'hp).toNat : Int) == 0) = false := by simpa using hk0
              have HK := Lib.hid hk0
              clear hk0
              have HA2 : Hid (∀ (j : Nat) (h : j < s.size), j < pos + 1 → kb s[j] ≠ 0) := fun j h hj => by
                by_cases e : j = pos
                · subst e; exact HK.out
                · exact HA.out j h (by omega)
              clear HA HK
              by_cases hp0 : pos = 0
              · by_cases hf : kindI ((s[pos]'hp).toNat : Int) = first
                · have hf1 : (kindI ((s[pos]'hp).toNat : Int) != first) = false := by simp [hf]
                  have HF2 : Hid (∀ (h : 0 < s.size), 0 < pos + 1 → kb s[0] = first) := fun h _ => by subst hp0; exact hf
                  have h00 : ((pos : Int) == 0) = true := by simp [hp0]
                  have HP := Lib.hid hp0
                  clear hf HF hp0
                  go_wp2_with (go_at_call 127; refine (kindOf_any _ _).mono ?_; rintro e w' ⟨rfl, rfl⟩)
                  go_roundw
                  case rel => exact ⟨pos + 1, hit2, by omega, hbw2, HA2, HF2⟩
                  case measure => rw [iterPos_of hit2, hpos0.out]; omega
                · have hf1 : (kindI ((s[pos]'hp).toNat : Int) != first) = true := by simpa using hf
                  have HR := Lib.hid (show isNm first s.data.toList = false from isNm_first (by rw [len_data]; omega) (by subst hp0; exact hf))
                  have h00 : ((pos : Int) == 0) = true := by simp [hp0]
                  clear hf HF hp0
                  go_wp2_with (go_at_call 127; refine (kindOf_any _ _).mono ?_; rintro e w' ⟨rfl, rfl⟩)
                  go_ret
                  exact ⟨ret_bool HR.out.symm, hbw2⟩
              · have h00 : ((pos : Int) == 0) = false := by simp; omega
                have HF2 : Hid (∀ (h : 0 < s.size), 0 < pos + 1 → kb s[0] = first) := fun h _ => HF.out h (by omega)
                clear HF hp0
                go_wp2_with (go_at_call 127; refine (kindOf_any _ _).mono ?_; rintro e w' ⟨rfl, rfl⟩)
                go_roundw
                case rel => exact ⟨pos + 1, hit2, by omega, hbw2, HA2, HF2⟩
                case measure => rw [iterPos_of hit2, hpos0.out]; omega
          · have hd := decode_hi s pos hp (by omega)
            have hk0 : kindI ((Utf8.decode s pos).1 : Int) = 0 := kindI_hi _ (by omega)
            have hnx : ∀ ty, (Instr.next (.pointer (some ⟨w.heap.size, 0, none⟩)) true ty).run Tryz.prog wr = _ := fun ty => Lib.run_next_any_at wr w.heap.size s pos ty hit hp
            have HR := Lib.hid (show isNm first s.data.toList = false from isNm_bad pos (by rw [len_data]; exact hp) (kindI_hi _ (by show 128 ≤ (((s[pos]'hp).toNat : Nat) : Int); omega)))
            have hbw2 := Lib.below_iterAt hbw (k := w.heap.size) (Nat.le_refl _) s (pos + (Utf8.decode s pos).2)
            obtain ⟨W1, hW1⟩ : ∃ W1, W1 = wr.iterAt w.heap.size s (pos + (Utf8.decode s pos).2) := ⟨_, rfl⟩
            rw [← hW1] at hnx hbw2
            clear hW1 hit hbw hpos0 HA HF
            go_wp2_with (go_at_call 127; refine (kindOf_any _ _).mono ?_; rintro e w' ⟨rfl, rfl⟩)
            go_ret
            exact ⟨ret_bool HR.out.symm, hbw2⟩
        · have hnx : ∀ ty, (Instr.next (.pointer (some ⟨w.heap.size, 0, none⟩)) true ty).run Tryz.prog wr = _ := fun ty => Lib.run_next_end_at wr w.heap.size s pos ty hit hp
          clear hit hpos0
          go_wp2
          go_ret
          obtain rfl : pos = s.size := by omega
          have hsz := HSZ.out
          exact ⟨ret_bool (isNm_true (by omega) (by omega) (HF.out (by omega) (by omega)) (fun j h => HA.out j (by omega) (by omega))).symm, hbw⟩
end Go.Proofs.YtbmicnajedeenaaGreatDoor
/- The reader's methods: take, word, symbol, space. -/
namespace Go.Proofs.YtbmicnajedeenaaGreatDoor
open Go.RowKit

/-- a source lies in block b: its text, where it reads, where the token begins -/
def Src (w : World) (b : Nat) (s : ByteArray) (p q : Int) : Prop := w.heap[b]? = some (.cells #[.string s, .int .i64 p, .int .i64 q] 199 (0, 0))

section
variable {w w' : World} {b : Nat} {s : ByteArray} {p q : Int}
theorem Src.lt (h : Src w b s p q) : b < w.heap.size := (Array.getElem?_eq_some_iff.1 h).1
theorem Src.c0 (h : Src w b s p q) : w.cell? ⟨b, 0, none⟩ = some (.string s) := cell_of_row w b 0 _ 199 (0, 0) h
theorem Src.c1 (h : Src w b s p q) : w.cell? ⟨b, 1, none⟩ = some (.int .i64 p) := cell_of_row w b 1 _ 199 (0, 0) h
theorem Src.c2 (h : Src w b s p q) : w.cell? ⟨b, 2, none⟩ = some (.int .i64 q) := cell_of_row w b 2 _ 199 (0, 0) h
theorem Src.fr (h : Src w b s p q) (i : Nat) : w.frozen? ⟨b, i, none⟩ = false := by
  unfold Src at h; simp [World.frozen?, h]
theorem Src.kept (h : Src w b s p q) {row : Option Nat} (hg : w.grownBy w' row) (hne : some b ≠ row) : Src w' b s p q := (hg.block b h.lt hne).trans h
theorem Src.below (h : Src w b s p q) {B : Nat} (hg : Below B w w') (hb : b < B) : Src w' b s p q := (hg.block b hb).trans h
theorem Src.drewN (h : Src w b s p q) (n : Nat) : Src (w.drewN n) b s p q := h
theorem Src.set1 (h : Src w b s p q) (x : Int) : Src (w.setCell ⟨b, 1, none⟩ (.int .i64 x)) b s x q := by
  unfold Src at h ⊢; simp [World.setCell, Array.getElem?_modify, h]
theorem Src.set2 (h : Src w b s p q) (x : Int) : Src (w.setCell ⟨b, 2, none⟩ (.int .i64 x)) b s p x := by
  unfold Src at h ⊢; simp [World.setCell, Array.getElem?_modify, h]
theorem grown_set (w : World) (p : Addr) (v : Value) : w.grownBy (w.setCell p v) (some p.block) :=
  ⟨rfl, rfl, rfl, by simp [World.setCell], fun k _ hk => Below.heap_setCell w p v k (fun e => hk (by rw [e]))⟩
theorem grown_drewN (w : World) (n : Nat) (row : Option Nat) : w.grownBy (w.drewN n) row := ⟨rfl, rfl, rfl, Nat.le_refl _, fun _ _ _ => rfl⟩
theorem grown_trans {a c d : World} {row : Option Nat} (h : a.grownBy c row) (k : c.grownBy d row) : a.grownBy d row :=
  ⟨k.os.trans h.os, k.tape.trans h.tape, k.output.trans h.output, Nat.le_trans h.size k.size, fun i hi hr => (k.block i (Nat.lt_of_lt_of_le hi h.size) hr).trans (h.block i hi hr)⟩
theorem grown_below {a c : World} (h : Below a.heap.size a c) (row : Option Nat) : a.grownBy c row := ⟨h.os, h.tape, h.output, h.size, fun k hk _ => h.block k hk⟩
end

/-- what a method of the reader does: its text and its place in block b; nothing else that lay has changed -/
def Moved (w w' : World) (b : Nat) (s : ByteArray) (p q : Int) : Prop := Src w' b s p q ∧ w.grownBy w' (some b)
theorem Moved.mk' {w w' : World} {b : Nat} {s : ByteArray} {p q : Int} (h : Src w' b s p q) (g : w.grownBy w' (some b)) : Moved w w' b s p q := ⟨h, g⟩

set_option maxHeartbeats 400000 in
theorem take_any (b : Nat) (s : ByteArray) (p n : Nat) (q : Int) (w : World) (hS : Src w b s p q) (hs : s.size ≤ 30000) (hpn : p + n ≤ s.size) :
    Calls Tryz.prog 164 #[.pointer (some ⟨b, 0, none⟩), .int .i64 n] w fun e w' => e = .returned (.string (s.extract p (p + n))) ∧ Moved w w' b s ((p + n : Nat) : Int) q := by
  have h0 := hS.c0
  have h1 := hS.c1
  have hf1 := hS.fr 1
  have HS := Lib.hid hS
  clear hS
  go_enter Tryz.func164, Tryz.ntmps164
  go_wp2
  go_quiet (fail)
  go_wp2
  go_ret
  refine ⟨rfl, Moved.mk' ?_ (grown_trans (grown_drewN w nq _) (grown_set _ ⟨b, 1, none⟩ _))⟩
  have := (HS.out.drewN nq).set1 ((p : Int) + n)
  rw [Int.natCast_add]
  exact this

theorem byte_lt (c : UInt8) : (c.toNat : Int) < 256 ∧ 0 ≤ (c.toNat : Int) := by have := c.toNat_lt; omega
theorem w32b (c : UInt8) : wrap32 (c.toNat : Int) = (c.toNat : Int) := IntWalk.wrap32_in _ (by have := byte_lt c; omega)
theorem get_drop (s : ByteArray) (p j : Nat) (h : p + j < s.size) : (s.data.toList.drop p)[j]'(by rw [List.length_drop, len_data]; omega) = s[p + j] := by
  rw [List.getElem_drop]; rfl
theorem wordLen_at (s : ByteArray) (p m : Nat) (hp : p ≤ m) (hm : m ≤ s.size) (h1 : ∀ (j : Nat) (h : j < s.size), p ≤ j → j < m → kb s[j] ≠ 0) (h2 : ∀ h : m < s.size, kb s[m] = 0) :
    p + wordLen (s.data.toList.drop p) = m := by
  obtain ⟨k, rfl⟩ : ∃ k, m = p + k := ⟨m - p, by omega⟩
  rw [wordLen_eq (s.data.toList.drop p) k (by rw [List.length_drop, len_data]; omega) (fun j h hj => by rw [List.length_drop, len_data] at h; rw [get_drop s p j (by omega)]; exact h1 _ _ (by omega) (by omega)) (fun h => by rw [List.length_drop, len_data] at h; rw [get_drop s p k (by omega)]; exact h2 _)]

set_option maxHeartbeats 400000 in
theorem word_any (b : Nat) (s : ByteArray) (p : Nat) (q : Int) (w : World) (hS : Src w b s p q) (hs : s.size ≤ 30000) (hp : p ≤ s.size) :
    Calls Tryz.prog 144 #[.pointer (some ⟨b, 0, none⟩)] w fun e w' => e = .returned (.string (s.extract p (p + wordLen (s.data.toList.drop p)))) ∧ Moved w w' b s ((p + wordLen (s.data.toList.drop p) : Nat) : Int) q := by
  have h0 := hS.c0
  have h1 := hS.c1
  have HS := Lib.hid hS
  clear hS
  go_enter Tryz.func144, Tryz.ntmps144
  go_wp2
  go_loop [3] (fun i => ∃ m : Nat, p ≤ m ∧ m ≤ s.size ∧ i = .int .i64 (m : Int) ∧ Hid (∀ (j : Nat) (h : j < s.size), p ≤ j → j < m → kb s[j] ≠ 0)) (fun i => s.size - (intOf i).toNat)
  case atStart => exact ⟨p, by omega, hp, rfl, fun j h hj => by omega⟩
  case round =>
    obtain ⟨m, hpm, hk, rfl, HA⟩ := hrel
    have HT : Hid (∀ w : World, Src w b s p q → Calls Tryz.prog 164 #[.pointer (some ⟨b, 0, none⟩), .int .i64 ((m : Int) - p)] w fun e w' => e = .returned (.string (s.extract p m)) ∧ Moved w w' b s (m : Int) q) := fun w h => by
      have := take_any b s p (m - p) q w h hs (by omega)
      rw [show p + (m - p) = m from by omega, show ((m - p : Nat) : Int) = (m : Int) - p from by omega] at this
      exact this
    by_cases hlt : m < s.size
    · have hw := w32b (s[m]'hlt)
      by_cases hk0 : kindI ((s[m]'hlt).toNat : Int) = 0
      · have HW := Lib.hid (wordLen_at s p m hpm hk HA.out (fun h => hk0))
        clear HA
        go_wp2_with (first | (go_at_call 127; refine (kindOf_any _ _).mono ?_; rintro e w' ⟨rfl, rfl⟩) | (go_at_call 164; refine (HT.out _ HS.out).mono ?_; rintro e w' ⟨rfl, HM⟩))
        go_ret
        rw [HW.out]
        exact ⟨rfl, HM⟩
      · have hk1 : (kindI ((s[m]'hlt).toNat : Int) != 0) = true := by simpa using hk0
        have HA2 : Hid (∀ (j : Nat) (h : j < s.size), p ≤ j → j < m + 1 → kb s[j] ≠ 0) := fun j h hp hj => by
          by_cases e : j = m
          · subst e; exact hk0
          · exact HA.out j h hp (by omega)
        clear HA hk0
        go_wp2_with (first | (go_at_call 127; refine (kindOf_any _ _).mono ?_; rintro e w' ⟨rfl, rfl⟩))
        go_round
        case rel => exact ⟨m + 1, by omega, by omega, by go_num, HA2⟩
        case measure => simp [intOf]; omega
    · have HW := Lib.hid (wordLen_at s p m hpm hk HA.out (fun h => absurd h hlt))
      clear HA
      go_wp2_with (first | (go_at_call 127; refine (kindOf_any _ _).mono ?_; rintro e w' ⟨rfl, rfl⟩) | (go_at_call 164; refine (HT.out _ HS.out).mono ?_; rintro e w' ⟨rfl, HM⟩))
      go_ret
      rw [HW.out]
      exact ⟨rfl, HM⟩
end Go.Proofs.YtbmicnajedeenaaGreatDoor
/- The reader's method space, and the reference's Space. -/
namespace Go.Proofs.YtbmicnajedeenaaGreatDoor
open Go.RowKit

theorem drop_cons (s : ByteArray) (m : Nat) (h : m < s.size) : s.data.toList.drop m = s[m] :: s.data.toList.drop (m + 1) := by
  rw [List.drop_eq_getElem_cons (by rw [len_data]; exact h)]; rfl
theorem drop_end (s : ByteArray) (m : Nat) (h : ¬ m < s.size) : s.data.toList.drop m = [] := by
  apply List.drop_eq_nil_of_le; rw [len_data]; omega
theorem u8_eq (c : UInt8) (n : UInt8) : c = n ↔ (c.toNat : Int) = (n.toNat : Int) := by
  rw [UInt8.toNat_inj.symm]; omega
theorem sp_end (s : ByteArray) (m : Nat) (cm : Bool) (h : ¬ m < s.size) : spLen cm (s.data.toList.drop m) = 0 := by rw [drop_end s m h]; cases cm <;> rfl
theorem sp_nl (s : ByteArray) (m : Nat) (cm : Bool) (h : m < s.size) (hc : s[m] = 10) : spLen cm (s.data.toList.drop m) = 1 + spLen false (s.data.toList.drop (m + 1)) := by
  rw [drop_cons s m h]; simp [spLen, hc]
theorem sp_hash (s : ByteArray) (m : Nat) (cm : Bool) (h : m < s.size) (hc : s[m] = 35) : spLen cm (s.data.toList.drop m) = 1 + spLen true (s.data.toList.drop (m + 1)) := by
  rw [drop_cons s m h]; simp [spLen, hc]
theorem sp_in (s : ByteArray) (m : Nat) (cm : Bool) (h : m < s.size) (h1 : s[m] ≠ 10) (h2 : s[m] ≠ 35) (hc : cm = true ∨ s[m] = 32 ∨ s[m] = 9) : spLen cm (s.data.toList.drop m) = 1 + spLen cm (s.data.toList.drop (m + 1)) := by
  rw [drop_cons s m h]; simp only [spLen, h1, h2, if_false]
  rw [if_pos]
  rcases hc with rfl | hc | hc <;> simp [*]
theorem sp_out (s : ByteArray) (m : Nat) (h : m < s.size) (h1 : s[m] ≠ 10) (h2 : s[m] ≠ 35) (h3 : s[m] ≠ 32) (h4 : s[m] ≠ 9) : spLen false (s.data.toList.drop m) = 0 := by
  rw [drop_cons s m h]; simp [spLen, h1, h2, h3, h4]
theorem beq_u8 {c : UInt8} {n : Nat} (hn : n < 256) : ((c.toNat : Int) == (n : Int)) = (c == UInt8.ofNat n) := by
  rw [Bool.eq_iff_iff, beq_iff_eq, beq_iff_eq, u8_eq]
  simp [UInt8.toNat_ofNat', Nat.mod_eq_of_lt hn]

set_option maxHeartbeats 600000 in
theorem space_any (b : Nat) (s : ByteArray) (p : Nat) (q : Int) (w : World) (hS : Src w b s p q) (hs : s.size ≤ 30000) (hp : p ≤ s.size) :
    Calls Tryz.prog 143 #[.pointer (some ⟨b, 0, none⟩)] w fun e w' => e = .returned (.string (s.extract p (p + spLen false (s.data.toList.drop p)))) ∧ Moved w w' b s ((p + spLen false (s.data.toList.drop p) : Nat) : Int) q := by
  have h0 := hS.c0
  have h1 := hS.c1
  have HS := Lib.hid hS
  clear hS
  go_enter Tryz.func143, Tryz.ntmps143
  go_wp2
  go_loop [3, 4] (fun i c => ∃ (m : Nat) (cm : Bool), p ≤ m ∧ m ≤ s.size ∧ i = .int .i64 (m : Int) ∧ c = .bool cm ∧ Hid (p + spLen false (s.data.toList.drop p) = m + spLen cm (s.data.toList.drop m))) (fun i _ => s.size - (intOf i).toNat)
  case atStart => exact ⟨p, false, by omega, hp, rfl, rfl, rfl⟩
  case round =>
    obtain ⟨m, cm, hpm, hk, rfl, rfl, HA⟩ := hrel
    have HT : Hid (∀ w : World, Src w b s p q → Calls Tryz.prog 164 #[.pointer (some ⟨b, 0, none⟩), .int .i64 ((m : Int) - p)] w fun e w' => e = .returned (.string (s.extract p m)) ∧ Moved w w' b s (m : Int) q) := fun w h => by
      have := take_any b s p (m - p) q w h hs (by omega)
      rw [show p + (m - p) = m from by omega, show ((m - p : Nat) : Int) = (m : Int) - p from by omega] at this
      exact this
    by_cases hlt : m < s.size
    · have g10 : (((s[m]'hlt).toNat : Int) == 10) = (s[m] == 10) := beq_u8 (by decide)
      have g35 : (((s[m]'hlt).toNat : Int) == 35) = (s[m] == 35) := beq_u8 (by decide)
      have g32 : (((s[m]'hlt).toNat : Int) == 32) = (s[m] == 32) := beq_u8 (by decide)
      have g9 : (((s[m]'hlt).toNat : Int) == 9) = (s[m] == 9) := beq_u8 (by decide)
      by_cases c10 : s[m] = 10
      · have HW : Hid (p + spLen false (s.data.toList.drop p) = m + 1 + spLen false (s.data.toList.drop (m + 1))) := by
          show _ = _
          rw [HA.out, sp_nl s m cm hlt c10]; omega
        clear HA
        have b10 : (((s[m]'hlt).toNat : Int) == 10) = true := by rw [g10, c10]; rfl
        clear g10 g35 g32 g9 c10
        go_wp2_with fail
        go_round
        case rel => exact ⟨m + 1, false, by omega, by omega, by go_num, rfl, HW⟩
        case measure => simp [intOf]; omega
      have b10 : (((s[m]'hlt).toNat : Int) == 10) = false := by rw [g10]; simpa using c10
      by_cases c35 : s[m] = 35
      · have HW : Hid (p + spLen false (s.data.toList.drop p) = m + 1 + spLen true (s.data.toList.drop (m + 1))) := by
          show _ = _
          rw [HA.out, sp_hash s m cm hlt c35]; omega
        clear HA
        have b35 : (((s[m]'hlt).toNat : Int) == 35) = true := by rw [g35, c35]; rfl
        clear g10 g35 g32 g9 c10 c35
        go_wp2_with fail
        go_round
        case rel => exact ⟨m + 1, true, by omega, by omega, by go_num, rfl, HW⟩
        case measure => simp [intOf]; omega
      have b35 : (((s[m]'hlt).toNat : Int) == 35) = false := by rw [g35]; simpa using c35
      by_cases hin : cm = true ∨ s[m] = 32 ∨ s[m] = 9
      · have HW : Hid (p + spLen false (s.data.toList.drop p) = m + 1 + spLen cm (s.data.toList.drop (m + 1))) := by
          show _ = _
          rw [HA.out, sp_in s m cm hlt c10 c35 hin]; omega
        clear HA c10 c35
        cases cm with
        | true =>
          clear hin g10 g35 g32 g9
          go_wp2_with fail
          go_round
          case rel => exact ⟨m + 1, true, by omega, by omega, by go_num, rfl, HW⟩
          case measure => simp [intOf]; omega
        | false =>
          by_cases c32 : s[m] = 32
          · have b32 : (((s[m]'hlt).toNat : Int) != 32) = false := by rw [bne, g32, c32]; rfl
            clear hin g10 g35 g32 g9 c32
            go_wp2_with fail
            go_round
            case rel => exact ⟨m + 1, false, by omega, by omega, by go_num, rfl, HW⟩
            case measure => simp [intOf]; omega
          · have c9 : s[m] = 9 := by simpa [c32] using hin
            have b32 : (((s[m]'hlt).toNat : Int) != 32) = true := by rw [bne, g32]; simpa using c32
            have b9 : (((s[m]'hlt).toNat : Int) != 9) = false := by rw [bne, g9, c9]; rfl
            clear hin g10 g35 g32 g9 c32 c9
            go_wp2_with fail
            go_round
            case rel => exact ⟨m + 1, false, by omega, by omega, by go_num, rfl, HW⟩
            case measure => simp [intOf]; omega
      · obtain ⟨hcm, c32, c9⟩ : cm = false ∧ s[m] ≠ 32 ∧ s[m] ≠ 9 := by
          refine ⟨?_, fun e => hin (.inr (.inl e)), fun e => hin (.inr (.inr e))⟩
          cases cm with
          | false => rfl
          | true => exact absurd (.inl rfl) hin
        subst hcm
        have HW : Hid (p + spLen false (s.data.toList.drop p) = m) := by
          show _ = _
          rw [HA.out, sp_out s m hlt c10 c35 c32 c9, Nat.add_zero]
        clear HA
        have b32 : (((s[m]'hlt).toNat : Int) != 32) = true := by rw [bne, g32]; simpa using c32
        have b9 : (((s[m]'hlt).toNat : Int) != 9) = true := by rw [bne, g9]; simpa using c9
        clear hin g10 g35 g32 g9 c32 c9 c10 c35
        go_wp2_with (go_at_call 164; refine (HT.out _ HS.out).mono ?_; rintro e w' ⟨rfl, HM⟩)
        go_ret
        rw [HW.out]
        exact ⟨rfl, HM⟩
    · have HW : Hid (p + spLen false (s.data.toList.drop p) = m) := by
        show _ = _
        rw [HA.out, sp_end s m cm hlt, Nat.add_zero]
      clear HA
      go_wp2_with (go_at_call 164; refine (HT.out _ HS.out).mono ?_; rintro e w' ⟨rfl, HM⟩)
      go_ret
      rw [HW.out]
      exact ⟨rfl, HM⟩
end Go.Proofs.YtbmicnajedeenaaGreatDoor
/- keywordsOf and Keyword: the set of keywords, asked. -/
namespace Go.Proofs.YtbmicnajedeenaaGreatDoor
open Go.RowKit Go.Maps Go.WideMaps Go.WideElems Go.ChangeShapes Go.WideShapes Go.ChangeAt

def kwOf (n : Nat) : List (List UInt8) := kwList.filter (fun k => k.length == n)
theorem isKw_of (l : List UInt8) : isKw l = (kwOf l.length).contains l := by
  unfold isKw kwOf
  rw [Bool.eq_iff_iff, List.contains_iff_mem, List.contains_iff_mem, List.mem_filter]
  simp
theorem kwLaw : Keyed Tryz.prog 9 := string_keyed Tryz.underlying9
theorem zero4 (w : World) : (zeroValue 4).run Tryz.prog w = .ok (.bool false) w := by kernel_rfl

def KwMap (w0 w : World) (b : Nat) (ks : List (List UInt8)) : Prop :=
  (∃ D : DataW Unit, w.ownsMap Tryz.prog 9 (plainElem Tryz.prog 4) b ks.length D ∧ IsMap D ∧ ∀ l, D.atKey (.string l) (.lit (.bool false)) = .lit (.bool (ks.contains l))) ∧ Below w0.heap.size w0 w ∧ w0.heap.size ≤ b

theorem kw_made (w : World) : KwMap w (w.alloc (.map #[] 0)) w.heap.size [] :=
  ⟨⟨_, World.ownsMap_made _ _ _ _, isMap_empty, fun _ => rfl⟩, (Below.refl _ _).alloc (Nat.le_refl _) _, Nat.le_refl _⟩

theorem kw_put {w0 w w' : World} {b : Nat} {ks : List (List UInt8)} {D : DataW Unit} (k : List UInt8) (hB : Below w0.heap.size w0 w) (hb : w0.heap.size ≤ b) (hD : IsMap D)
    (hat : ∀ l, D.atKey (.string l) (.lit (.bool false)) = .lit (.bool (ks.contains l)))
    (h' : w'.ownsMap Tryz.prog 9 (plainElem Tryz.prog 4) b (ks.length + 1) (D.put (.string k) (.lit (.bool true)))) (hg : w.grownBy w' (some b)) : KwMap w0 w' b (k :: ks) := by
  refine ⟨⟨_, h', hD.put _ _, fun l => ?_⟩, hB.grown hg hB.size (fun j e => by cases e; exact hb), hb⟩
  by_cases e : l = k
  · subst e
    rw [atKey_put_same hD (by trivial)]
    simp
  · rw [atKey_put_other (by intro h; cases h; exact e rfl), hat]
    have : (l == k) = false := by simpa using e
    rw [List.contains_cons, this, Bool.false_or]

set_option maxRecDepth 100000 in
theorem wpList_insert_kw {w0 : World} (w : World) {ops : Array Oper} {rest : List Oper} {o : Oper} {a : Act} {Q : Exit → Act → World → Prop}
    (hg : o.guard = none) (m x v : Operand) (hop : o.op = Op.insert 231 m x v) (b : Nat) (ks : List (List UInt8)) (hm : a.eval m = .map (some b)) (hown : KwMap w0 w b ks) (hn : ks.length < 100)
    (s : ByteArray) (hx : a.eval x = .string s) (hs : s.size < 100) (hv : a.eval v = .bool true)
    (hK : ∀ w', KwMap w0 w' b (s.data.toList :: ks) → wpList Tryz.prog ops Q rest (a.put o.dst undef) w') : wpList Tryz.prog ops Q (o :: rest) a w := by
  refine wpList_plain hg fun K' hK' => ?_
  obtain ⟨⟨D, hD, hM, hat⟩, hB, hb⟩ := hown
  obtain ⟨w', hrun, r1, r2⟩ := hD.update kwLaw Tryz.underlying231 (by unfold maxLen; omega) (keyOf_string_mk (s := s) Tryz.underlying9 (by unfold maxLen; omega)) (plainElem_bool Tryz.underlying4 true)
  unfold Oper.wp
  simp [execOp, hop, hm, hx, hv, hrun, Result.andThen]
  exact hK' _ _ (hK _ (kw_put _ hB hb hM hat r1 r2))

/-- what keywordsOf returns -/
def KwRes (w w' : World) (n : Nat) (v : Value) : Prop := (v = .map none ∧ kwOf n = [] ∧ w = w') ∨ ∃ b, v = .map (some b) ∧ KwMap w w' b (kwOf n).reverse

theorem kw_none (n : Nat) (h : n < 2 ∨ 7 < n) : kwOf n = [] := by
  unfold kwOf
  rw [List.filter_eq_nil_iff]
  intro k hk
  have : k.length = 2 ∨ k.length = 3 ∨ k.length = 4 ∨ k.length = 5 ∨ k.length = 6 ∨ k.length = 7 := by
    have : kwList.all (fun k => k.length == 2 || k.length == 3 || k.length == 4 || k.length == 5 || k.length == 6 || k.length == 7) = true := by decide
    have := List.all_eq_true.1 this k hk
    simp only [Bool.or_eq_true, beq_iff_eq] at this
    omega
  simp; omega

def KwPost (w : World) (n : Nat) (e : Ending) (w' : World) : Prop := ∃ v, e = .returned v ∧ KwRes w w' n v
theorem KwPost.nil {w : World} {n : Nat} (h : kwOf n = []) : KwPost w n (.returned (.map none)) w := ⟨_, rfl, .inl ⟨rfl, h, rfl⟩⟩
theorem KwPost.map {w w' : World} {n b : Nat} {ks : List (List UInt8)} (h : KwMap w w' b ks) (e : ks = (kwOf n).reverse) : KwPost w n (.returned (.map (some b))) w' := ⟨_, rfl, .inr ⟨b, rfl, e ▸ h⟩⟩

set_option maxRecDepth 100000 in
set_option maxHeartbeats 1000000 in
theorem keywordsOf_any (n : Nat) (w : World) : Calls Tryz.prog 159 #[.int .i64 n] w (KwPost w n) := by
  have hmm := @run_makeMap Tryz.prog
  have hmade := kw_made w
  by_cases hr : n < 2 ∨ 7 < n
  · have g2 : ((n : Int) == 2) = false := by simp; omega
    have g3 : ((n : Int) == 3) = false := by simp; omega
    have g4 : ((n : Int) == 4) = false := by simp; omega
    have g5 : ((n : Int) == 5) = false := by simp; omega
    have g6 : ((n : Int) == 6) = false := by simp; omega
    have g7 : ((n : Int) == 7) = false := by simp; omega
    have HR := Lib.hid (kw_none n hr)
    clear hmade hr
    go_enter Tryz.func159, Tryz.ntmps159
    go_wp2
    go_ret
    exact KwPost.nil HR.out
  · obtain rfl | rfl | rfl | rfl | rfl | rfl : n = 2 ∨ n = 3 ∨ n = 4 ∨ n = 5 ∨ n = 6 ∨ n = 7 := by omega
    all_goals
      clear hr
      go_enter Tryz.func159, Tryz.ntmps159
      go_wp2_with (first | (refine wpList_insert_kw _ rfl _ _ _ rfl _ _ rfl hmade (by decide) _ rfl (by decide) rfl ?_; clear hmade; intro w1 hmade))
    all_goals
      go_ret
      exact KwPost.map hmade (by decide)

set_option maxRecDepth 100000 in
theorem kw_lookup {w w' : World} {n : Nat} {v : Value} (h : KwRes w w' n v) (s : ByteArray) (hs : s.size ≤ maxLen) :
    (Instr.lookup 231 v (.string s) false).run Tryz.prog w' = .ok (.bool ((kwOf n).contains s.data.toList)) w' := by
  have hk := keyOf_string_mk (s := s) Tryz.underlying9 hs
  rcases h with ⟨rfl, h0, rfl⟩ | ⟨b, rfl, ⟨D, hD, hM, hat⟩, hB, hb⟩
  · rw [h0]
    exact Maps.look_nil false kwLaw Tryz.underlying231 (zero4 w) hk
  · obtain ⟨v, ps, hrun, hv⟩ := hD.lookup kwLaw Tryz.underlying231 (zero4 w') (plainElem_bool Tryz.underlying4 false) hk
    rw [hat, List.contains_reverse] at hv
    rw [hrun]
    congr 1
    unfold plainElem at hv
    rw [Tryz.underlying4] at hv
    cases v <;> simp at hv
    rw [hv.1]
    congr 1
    rw [Bool.eq_iff_iff, List.contains_iff_mem, decide_eq_true_iff]
theorem KwRes.below {w w' : World} {n : Nat} {v : Value} (h : KwRes w w' n v) : Below w.heap.size w w' := by
  rcases h with ⟨rfl, h0, rfl⟩ | ⟨b, rfl, ⟨D, hD, hM, hat⟩, hB, hb⟩
  · exact Below.refl _ _
  · exact hB

set_option maxHeartbeats 1000000 in
theorem Keyword_any (s : ByteArray) (w : World) (hs : s.size ≤ maxLen) : Calls Tryz.prog 135 #[.string s] w fun e w' => e = .returned (.bool (isKw s.data.toList)) ∧ Below w.heap.size w w' := by
  have HK := Lib.hid (show isKw s.data.toList = decide (s.data.toList ∈ kwOf s.size) by rw [isKw_of, len_data]; rw [Bool.eq_iff_iff, List.contains_iff_mem, decide_eq_true_iff])
  go_enter Tryz.func135, Tryz.ntmps135
  go_wp2_with (go_at_call 159; refine (keywordsOf_any _ _).mono ?_; rintro e w' ⟨v, rfl, hv⟩; have hl := kw_lookup hv s hs; have HB := Lib.hid hv.below; clear hv)
  go_ret
  exact ⟨ret_bool HK.out.symm, HB.out⟩
end Go.Proofs.YtbmicnajedeenaaGreatDoor
/- integer: the integer whose digits a string is. -/
namespace Go.Proofs.YtbmicnajedeenaaGreatDoor
open Go.RowKit

theorem kindI_3 {c : Int} (h : kindI c = 3) : 48 ≤ c ∧ c ≤ 57 := by
  unfold kindI at h
  repeat' split at h
  all_goals omega
theorem go_digit {n : Int} {c : UInt8} {r : List UInt8} (h : kindI c.toNat = 3) (hn : 10 * n + ((c.toNat : Int) - 48) ≤ 999999999) : intGo n (c :: r) = intGo (10 * n + ((c.toNat : Int) - 48)) r := by
  simp only [intGo]; rw [if_pos (show kb c = 3 from h), if_neg (by omega)]
theorem go_large {n : Int} {c : UInt8} {r : List UInt8} (h : kindI c.toNat = 3) (hn : 999999999 < 10 * n + ((c.toNat : Int) - 48)) : intGo n (c :: r) = none := by
  simp only [intGo]; rw [if_pos (show kb c = 3 from h), if_pos hn]
theorem go_other {n : Int} {c : UInt8} {r : List UInt8} (h : ¬ kindI c.toNat = 3) : intGo n (c :: r) = none := by
  simp only [intGo]; rw [if_neg (show ¬ kb c = 3 from h)]

def IntRes (o : Option Int) : Ending := .returned (.tuple #[.int .i64 (o.getD 0), .bool o.isSome])
theorem IntRes_none {o : Option Int} (h : o = none) : Ending.returned (.tuple #[.int .i64 0, .bool false]) = IntRes o := by rw [h]; rfl
theorem IntRes_some {o : Option Int} {n : Int} (h : o = some n) : Ending.returned (.tuple #[.int .i64 n, .bool true]) = IntRes o := by rw [h]; rfl

set_option maxHeartbeats 1000000 in
theorem integer_any (s : ByteArray) (w : World) (hs : s.size ≤ maxLen) :
    Calls Tryz.prog 166 #[.string s] w fun e w' => e = IntRes (integerS s.data.toList) ∧ Below w.heap.size w w' := by
  unfold maxLen at hs
  by_cases h0 : s.size = 0
  · have he1 := nil_toList h0
    have he2 : s.toList.isEmpty = true := by rw [he1]; rfl
    have HR := Lib.hid (show integerS s.data.toList = none by rw [← ByteArray.toList_eq, he1]; rfl)
    clear he1 h0
    go_enter Tryz.func166, Tryz.ntmps166
    go_wp2
    go_ret2
    exact ⟨IntRes_none HR.out, Below.refl _ _⟩
  have he2 := cons_toList h0
  have h00 : 0 < s.size := by omega
  have g48 : (((s[0]'h00).toNat : Int) == 48) = (s[0] == 48) := beq_u8 (by decide)
  have hd0 : s.data.toList = s[0] :: s.data.toList.drop 1 := drop_cons s 0 h00
  by_cases hz : 1 < s.size ∧ s[0] = 48
  · have HR := Lib.hid (show integerS s.data.toList = none by
      rw [hd0]; simp only [integerS]; rw [if_pos]; simp only [Bool.and_eq_true, decide_eq_true_eq, beq_iff_eq]; exact ⟨by rw [List.length_drop, len_data]; omega, hz.2⟩)
    have b48 : (((s[0]'h00).toNat : Int) == 48) = true := by rw [g48, hz.2]; rfl
    have h1 := hz.1
    clear hz g48 hd0 h0
    go_enter Tryz.func166, Tryz.ntmps166
    go_wp2
    go_ret2
    exact ⟨IntRes_none HR.out, Below.refl _ _⟩
  have HI := Lib.hid (show integerS s.data.toList = intGo 0 s.data.toList by
    rw [hd0]; simp only [integerS]; rw [if_neg]
    simp only [Bool.and_eq_true, decide_eq_true_eq, beq_iff_eq]; rw [List.length_drop, len_data]; intro h; exact hz ⟨by omega, h.2⟩)
  clear hd0 h0
  have main : ∀ (Z : (s.size ≤ 1) ∨ ((((s[0]'h00).toNat : Int) == 48) = false ∧ 1 < s.size)), Calls Tryz.prog 166 #[.string s] w fun e w' => e = IntRes (integerS s.data.toList) ∧ Below w.heap.size w w' := by
    intro Z
    rcases Z with Z | ⟨Z, Z1⟩
    all_goals
      clear g48 hz
      go_enter Tryz.func166, Tryz.ntmps166
      go_wp2
      go_loopw [2] (fun v wr => ∃ (pos : Nat) (n : Int), wr.heap[w.heap.size]? = some (.stringIter s pos) ∧ pos ≤ s.size ∧ Below w.heap.size w wr ∧ v = .int .i64 n ∧ 0 ≤ n ∧ n ≤ 999999999 ∧ Hid (integerS s.data.toList = intGo n (s.data.toList.drop pos))) (fun _ wr => s.size - wr.iterPos w.heap.size)
      case atStart => exact ⟨0, 0, World.iter_heap w s 0, by omega, (Below.refl _ _).alloc (Nat.le_refl _) _, rfl, by omega, by omega, HI⟩
      case round =>
        clear HI
        obtain ⟨pos, n, hit, hle, hbw, rfl, hn0, hn1, HA⟩ := hrel
        have hpos0 := Lib.hid (iterPos_of hit)
        by_cases hp : pos < s.size
        · have hd := Lib.hid (drop_cons s pos hp)
          by_cases ha : (s[pos]'hp).toNat < 128
          · have hnx : ∀ ty, (Instr.next (.pointer (some ⟨w.heap.size, 0, none⟩)) true ty).run Tryz.prog wr = _ := fun ty => Lib.run_next_ascii_at wr w.heap.size s pos ty hit hp ha
            have hit2 := Lib.iterAt_heap wr w.heap.size s pos (pos + 1) hit
            have hbw2 := Lib.below_iterAt hbw (k := w.heap.size) (Nat.le_refl _) s (pos + 1)
            obtain ⟨W1, hW1⟩ : ∃ W1, W1 = wr.iterAt w.heap.size s (pos + 1) := ⟨_, rfl⟩
            rw [← hW1] at hnx hit2 hbw2
            clear hW1 hit hbw
            by_cases hk3 : kindI ((s[pos]'hp).toNat : Int) = 3
            · have hc := kindI_3 hk3
              have hk : (kindI ((s[pos]'hp).toNat : Int) != 3) = false := by rw [hk3]; rfl
              by_cases hlg : 999999999 < 10 * n + (((s[pos]'hp).toNat : Int) - 48)
              · have HR := Lib.hid (show integerS s.data.toList = none by rw [HA.out, hd.out]; exact go_large hk3 hlg)
                clear hk3 HA hd
                go_wp2_with (go_at_call 127; refine (kindOf_any _ _).mono ?_; rintro e w' ⟨rfl, rfl⟩)
                go_ret2
                exact ⟨IntRes_none HR.out, hbw2⟩
              · have HA2 : Hid (integerS s.data.toList = intGo (10 * n + (((s[pos]'hp).toNat : Int) - 48)) (s.data.toList.drop (pos + 1))) := by
                  show _ = _; rw [HA.out, hd.out]; exact go_digit hk3 (by omega)
                clear hk3 HA hd
                go_wp2_with (go_at_call 127; refine (kindOf_any _ _).mono ?_; rintro e w' ⟨rfl, rfl⟩)
                go_roundw
                case rel => exact ⟨pos + 1, _, hit2, by omega, hbw2, rfl, by omega, by omega, HA2⟩
                case measure => rw [iterPos_of hit2, hpos0.out]; omega
            · have hk : (kindI ((s[pos]'hp).toNat : Int) != 3) = true := by simpa using hk3
              have HR := Lib.hid (show integerS s.data.toList = none by rw [HA.out, hd.out]; exact go_other hk3)
              clear hk3 HA hd
              go_wp2_with (go_at_call 127; refine (kindOf_any _ _).mono ?_; rintro e w' ⟨rfl, rfl⟩)
              go_ret2
              exact ⟨IntRes_none HR.out, hbw2⟩
          · have hdh := decode_hi s pos hp (by omega)
            have hk : (kindI ((Utf8.decode s pos).1 : Int) != 3) = true := by rw [kindI_hi _ (by omega)]; rfl
            have hnx : ∀ ty, (Instr.next (.pointer (some ⟨w.heap.size, 0, none⟩)) true ty).run Tryz.prog wr = _ := fun ty => Lib.run_next_any_at wr w.heap.size s pos ty hit hp
            have HR := Lib.hid (show integerS s.data.toList = none by
              rw [HA.out, hd.out]; exact go_other (fun h => by have := kindI_3 h; omega))
            have hbw2 := Lib.below_iterAt hbw (k := w.heap.size) (Nat.le_refl _) s (pos + (Utf8.decode s pos).2)
            obtain ⟨W1, hW1⟩ : ∃ W1, W1 = wr.iterAt w.heap.size s (pos + (Utf8.decode s pos).2) := ⟨_, rfl⟩
            rw [← hW1] at hnx hbw2
            clear hW1 hit hbw hpos0 HA hd
            go_wp2_with (go_at_call 127; refine (kindOf_any _ _).mono ?_; rintro e w' ⟨rfl, rfl⟩)
            go_ret2
            exact ⟨IntRes_none HR.out, hbw2⟩
        · have hnx : ∀ ty, (Instr.next (.pointer (some ⟨w.heap.size, 0, none⟩)) true ty).run Tryz.prog wr = _ := fun ty => Lib.run_next_end_at wr w.heap.size s pos ty hit hp
          have HR := Lib.hid (show integerS s.data.toList = some n by rw [HA.out, drop_end s pos hp]; rfl)
          clear hit hpos0 HA
          go_wp2
          go_ret2
          exact ⟨IntRes_some HR.out, hbw⟩
  apply main
  by_cases h1 : 1 < s.size
  · exact .inr ⟨by rw [g48]; simpa using fun e => hz ⟨h1, e⟩, h1⟩
  · exact .inl (by omega)
end Go.Proofs.YtbmicnajedeenaaGreatDoor
/- isSymbol, and the reader's method symbol. -/
namespace Go.Proofs.YtbmicnajedeenaaGreatDoor
open Go.RowKit

def symVals : Array Value := (symList.map fun l => Value.string (strB l)).toArray
def symB (k : Nat) : ByteArray := strB (symList.getD k [])
/-- the program's table of symbols lies as its text lays it -/
def Syms (w : World) : Prop := ∃ t fr, w.heap[1]? = some (.cells symVals t fr)
theorem Syms.below {w w' : World} {B : Nat} (h : Syms w) (hb : Below B w w') (hB : 1 < B) : Syms w' := by
  obtain ⟨t, fr, e⟩ := h; exact ⟨t, fr, (hb.block 1 hB).trans e⟩
theorem Syms.grown {w w' : World} {row : Option Nat} (h : Syms w) (hg : w.grownBy w' row) (hne : some 1 ≠ row) : Syms w' := by
  obtain ⟨t, fr, e⟩ := h; exact ⟨t, fr, (hg.block 1 (Array.getElem?_eq_some_iff.1 e).1 hne).trans e⟩
theorem Syms.pos {w : World} (h : Syms w) : 1 < w.heap.size := by obtain ⟨t, fr, e⟩ := h; exact (Array.getElem?_eq_some_iff.1 e).1

theorem sym_ix (k : Nat) (hk : k < 20) (w : World) : (Instr.index 237 (.agg symVals) (.int .i64 (k : Int))).run Tryz.prog w = .ok (.string (symB k)) w := by
  have : k = 0 ∨ k = 1 ∨ k = 2 ∨ k = 3 ∨ k = 4 ∨ k = 5 ∨ k = 6 ∨ k = 7 ∨ k = 8 ∨ k = 9 ∨ k = 10 ∨ k = 11 ∨ k = 12 ∨ k = 13 ∨ k = 14 ∨ k = 15 ∨ k = 16 ∨ k = 17 ∨ k = 18 ∨ k = 19 := by omega
  rcases this with rfl | rfl | rfl | rfl | rfl | rfl | rfl | rfl | rfl | rfl | rfl | rfl | rfl | rfl | rfl | rfl | rfl | rfl | rfl | rfl <;> (clear hk; show _ = _; kernel_rfl)

theorem sym_eq (s : ByteArray) (k : Nat) : (s.toList == (symB k).toList) = (s.data.toList == symList.getD k []) := by
  rw [ByteArray.toList_eq, ByteArray.toList_eq]; rfl
theorem isSym_true {l : List UInt8} (k : Nat) (hk : k < 20) (h : symList.getD k [] = l) : isSym l = true := by
  unfold isSym
  rw [List.contains_iff_mem, ← h, List.getD_eq_getElem?_getD, List.getElem?_eq_getElem (by have : symList.length = 20 := rfl; omega)]
  exact List.getElem_mem _
theorem isSym_false {l : List UInt8} (h : ∀ j, j < 20 → symList.getD j [] ≠ l) : isSym l = false := by
  unfold isSym
  rw [Bool.eq_false_iff, ne_eq, List.contains_iff_mem]
  intro hm
  obtain ⟨j, hj, e⟩ := List.getElem_of_mem hm
  have hl : symList.length = 20 := rfl
  refine h j (by omega) ?_
  rw [List.getD_eq_getElem?_getD, List.getElem?_eq_getElem hj]; exact e

set_option maxHeartbeats 400000 in
theorem isSymbol_any (s : ByteArray) (w : World) (hS : Syms w) :
    Calls Tryz.prog 167 #[.string s] w fun e w' => e = .returned (.bool (isSym s.data.toList)) ∧ w = w' := by
  obtain ⟨tt, fr, hg⟩ := hS
  go_enter Tryz.func167, Tryz.ntmps167
  go_wp2_with (refine wpList_load_row rfl 237 _ rfl 1 rfl tt _ fr _ hg Tryz.underlying237 rfl (by kernel_rfl) ?_)
  clear hg
  go_loop [6] (fun i => ∃ k : Nat, k ≤ 20 ∧ i = .int .i64 (k : Int) ∧ Hid (∀ j, j < k → symList.getD j [] ≠ s.data.toList)) (fun i => 20 - (intOf i).toNat)
  case atStart => exact ⟨0, by omega, rfl, fun j h => by omega⟩
  case round =>
    obtain ⟨k, hk, rfl, HA⟩ := hrel
    by_cases hlt : k < 20
    · have hix := sym_ix k hlt
      have Hix := Lib.hid (sym_eq s k)
      by_cases he : symList.getD k [] = s.data.toList
      · have hb : (s.toList == (symB k).toList) = true := by rw [Hix.out, he]; simp
        have HR := Lib.hid (show isSym s.data.toList = true from isSym_true k hlt he)
        clear he HA
        go_wp2_with fail
        go_ret
        exact ⟨ret_bool HR.out.symm, rfl⟩
      · have hb : (s.toList == (symB k).toList) = false := by rw [Hix.out]; simpa using fun e => he e.symm
        have HA2 : Hid (∀ j, j < k + 1 → symList.getD j [] ≠ s.data.toList) := fun j hj => by
          by_cases e : j = k
          · subst e; exact he
          · exact HA.out j (by omega)
        clear he HA
        go_wp2_with fail
        go_round
        case rel => exact ⟨k + 1, by omega, by go_num, HA2⟩
        case measure => simp [intOf]; omega
    · obtain rfl : k = 20 := by omega
      have HR := Lib.hid (show isSym s.data.toList = false from isSym_false HA.out)
      clear HA
      go_wp2_with fail
      go_ret
      exact ⟨ret_bool HR.out.symm, rfl⟩

/-- the first symbol that is a prefix -/
theorem symAt_first (l : List UInt8) (k : Nat) (hk : k < 20) (h : (symList.getD k []).isPrefixOf l = true) (hn : ∀ j, j < k → (symList.getD j []).isPrefixOf l = false) : symAt l = symList.getD k [] := by
  unfold symAt
  have e : symList.find? (fun s => s.isPrefixOf l) = some (symList.getD k []) := by
    rw [List.find?_eq_some_iff_getElem]
    refine ⟨h, k, by simpa [symList] using hk, ?_, fun j hj => ?_⟩
    · rw [List.getD_eq_getElem?_getD, List.getElem?_eq_getElem (by simpa [symList] using hk)]; rfl
    · have := hn j hj
      rw [List.getD_eq_getElem?_getD, List.getElem?_eq_getElem (by have : symList.length = 20 := rfl; omega)] at this
      simpa using this
  rw [e]; rfl
theorem symAt_none (l : List UInt8) (hn : ∀ j, j < 20 → (symList.getD j []).isPrefixOf l = false) : symAt l = [] := by
  unfold symAt
  have e : symList.find? (fun s => s.isPrefixOf l) = none := by
    rw [List.find?_eq_none]
    intro x hx
    obtain ⟨j, hj, rfl⟩ := List.getElem_of_mem hx
    have := hn j (by simpa [symList] using hj)
    rw [List.getD_eq_getElem?_getD, List.getElem?_eq_getElem hj] at this
    exact fun h2 => by simp only [Option.getD_some] at this; rw [this] at h2; cases h2
  rw [e]; rfl
end Go.Proofs.YtbmicnajedeenaaGreatDoor
/-
  DERIVED: THE SHELF's CONTRACTS AT THIS DUMP, IN PLAIN WORDS (tools/lay-plain.mjs out of 'TryzShelf.lean', which tools/lay-shelf.mjs wrote): THE SAME DECLARATIONS UNDER THE SAME NAMES: 'import', 'namespace', 'open', 'def', 'theorem' AND NOTHING ELSE: no command of the shelf's: FOR A HAND-IN. Each laying: the table of numbers ('.._ren') and one theorem, a field a fact of the dump's own or the kernel's comparison; each contract: ONE APPLICATION.
-/
namespace Go.Proofs
open Go.Shelf
def Tryz.lays156_ren : Go.Shelf.Ren := ⟨fun | 156 => 102 | 165 => 138 | 166 => 99 | 169 => 28 | 240 => 136 | 241 => 162 | 276 => 160 | 277 => 176 | n => n, fun | 31 => 26 | 9 => 9 | 3 => 3 | 4 => 4 | 0 => 0 | 20 => 20 | 72 => 92 | 76 => 171 | 70 => 89 | 37 => 90 | 75 => 170 | 127 => 131 | 164 => 233 | 5 => 5 | 80 => 88 | n => n, fun | n => n⟩
theorem Tryz.lays156 : Go.Proofs.Lays.n156 Tryz.prog Tryz.lays156_ren := {
  mixed := by kernel_rfl
  f156 := Tryz.func102.trans (congrArg some (by kernel_rfl))
  f165 := Tryz.func138.trans (congrArg some (by kernel_rfl))
  f166 := Tryz.func99.trans (congrArg some (by kernel_rfl))
  f169 := Tryz.func28.trans (congrArg some (by kernel_rfl))
  f240 := Tryz.func136.trans (congrArg some (by kernel_rfl))
  f241 := Tryz.func162.trans (congrArg some (by kernel_rfl))
  f276 := Tryz.func160.trans (congrArg some (by kernel_rfl))
  f277 := Tryz.func176.trans (congrArg some (by kernel_rfl))
  t0 := Tryz.underlying0
  a0 := Tryz.isAgg0
  z0 := Tryz.sizeOf0
  v0 := Tryz.zeroValue0
  t3 := Tryz.underlying3
  a3 := Tryz.isAgg3
  z3 := Tryz.sizeOf3
  v3 := Tryz.zeroValue3
  t4 := Tryz.underlying4
  a4 := Tryz.isAgg4
  z4 := Tryz.sizeOf4
  v4 := Tryz.zeroValue4
  t9 := Tryz.underlying9
  a9 := Tryz.isAgg9
  z9 := Tryz.sizeOf9
  v9 := Tryz.zeroValue9
  t20 := Tryz.underlying20
  a20 := Tryz.isAgg20
  z20 := Tryz.sizeOf20
  v20 := Tryz.zeroValue20
  t31 := Tryz.underlying26
  a31 := Tryz.isAgg26
  z31 := Tryz.sizeOf26
  v31 := Tryz.zeroValue26
  t37 := Tryz.underlying90
  a37 := Tryz.isAgg90
  z37 := Tryz.sizeOf90
  v37 := Tryz.zeroValue90
  t70 := Tryz.underlying89
  a70 := Tryz.isAgg89
  z70 := Tryz.sizeOf89
  v70 := Tryz.zeroValue89
  t72 := Tryz.underlying92
  a72 := Tryz.isAgg92
  z72 := Tryz.sizeOf92
  v72 := Tryz.zeroValue92
  t75 := Tryz.underlying170
  a75 := Tryz.isAgg170
  z75 := Tryz.sizeOf170
  v75 := Tryz.zeroValue170
  t76 := Tryz.underlying171
  a76 := Tryz.isAgg171
  z76 := Tryz.sizeOf171
  v76 := Tryz.zeroValue171
  t127 := Tryz.underlying131
  a127 := Tryz.isAgg131
  z127 := Tryz.sizeOf131
  v127 := Tryz.zeroValue131
  t164 := Tryz.underlying233
  a164 := Tryz.isAgg233
  z164 := Tryz.sizeOf233
  v164 := Tryz.zeroValue233 }
theorem Tryz.Builder_Extra_156 : Builder.Extra Tryz.prog Tryz.lays156_ren := {
  sizeBuilder := by kernel_rfl
  liesBuilder := by kernel_rfl
  t5 := Tryz.underlying5
  a5 := Tryz.isAgg5
  z5 := Tryz.sizeOf5
  v5 := Tryz.zeroValue5
  infoByte := by kernel_rfl
  cellsByte := by kernel_rfl
  sizeByte := by kernel_rfl
  neB5 := by decide }
open Go.RowKit in
theorem Tryz.strings_Join_none (a : Option Addr) (c : Nat) (sep : ByteArray) (w : World) :
    Calls Tryz.prog 102 #[.slice a 0 c, .string sep] w fun e w' => e = .returned (.string ⟨#[]⟩) ∧ w' = w := Any.strings_Join_none Tryz.lays156 Tryz.Builder_Extra_156 a c sep w
open Go.RowKit in
theorem Tryz.strings_Join (bk o c : Nat) (xs : List ByteArray) (sep : ByteArray) (w : World) (hcells : ∀ (j : Nat) x, xs[j]? = some x → w.cell? ⟨bk, o + j, none⟩ = some (.string x)) (hbk : bk < w.heap.size) (hN : xs.length ≤ 140737488355328) (hcap : xs.length ≤ c) (hlen : (Lib.join (xs.map (·.data.toList)) sep.data.toList).length ≤ 140737488355328) :
    Calls Tryz.prog 102 #[.slice (some ⟨bk, o, none⟩) xs.length c, .string sep] w fun e w' => e = .returned (.string ⟨(Lib.join (xs.map (·.data.toList)) sep.data.toList).toArray⟩) ∧ Below w.heap.size w w' := Any.strings_Join Tryz.lays156 Tryz.Builder_Extra_156 bk o c xs sep w hcells hbk hN hcap hlen
def Tryz.laysM171_ren : Go.Shelf.Ren := ⟨fun | 171 => 137 | 243 => 161 | 246 => 175 | 283 => 186 | 284 => 187 | 285 => 188 | 286 => 189 | 129 => 195 | 317 => 194 | 318 => 196 | 319 => 197 | 320 => 198 | 337 => 201 | 338 => 202 | n => n, fun | 3 => 3 | 9 => 9 | 2 => 2 | 4 => 4 | 171 => 256 | 0 => 0 | 53 => 257 | 37 => 90 | 5 => 5 | 173 => 260 | 212 => 268 | 51 => 269 | 20 => 20 | 213 => 270 | 46 => 271 | 232 => 275 | 233 => 276 | n => n, fun | 17 => 4 | 18 => 5 | 19 => 6 | n => n⟩
theorem Tryz.laysM171 : Go.Proofs.LaysM.n171 Tryz.prog Tryz.laysM171_ren := {
  mixed := by kernel_rfl
  f129 := Tryz.func195.trans (congrArg some (by kernel_rfl))
  f171 := Tryz.func137.trans (congrArg some (by kernel_rfl))
  f243 := Tryz.func161.trans (congrArg some (by kernel_rfl))
  f246 := Tryz.func175.trans (congrArg some (by kernel_rfl))
  f283 := Tryz.func186.trans (congrArg some (by kernel_rfl))
  f284 := Tryz.func187.trans (congrArg some (by kernel_rfl))
  f285 := Tryz.func188.trans (congrArg some (by kernel_rfl))
  f286 := Tryz.func189.trans (congrArg some (by kernel_rfl))
  f317 := Tryz.func194.trans (congrArg some (by kernel_rfl))
  f318 := Tryz.func196.trans (congrArg some (by kernel_rfl))
  f319 := Tryz.func197.trans (congrArg some (by kernel_rfl))
  f320 := Tryz.func198.trans (congrArg some (by kernel_rfl))
  f337 := Tryz.func201.trans (congrArg some (by kernel_rfl))
  f338 := Tryz.func202.trans (congrArg some (by kernel_rfl))
  t0 := Tryz.underlying0
  a0 := Tryz.isAgg0
  z0 := Tryz.sizeOf0
  v0 := Tryz.zeroValue0
  t2 := Tryz.underlying2
  a2 := Tryz.isAgg2
  z2 := Tryz.sizeOf2
  v2 := Tryz.zeroValue2
  t3 := Tryz.underlying3
  a3 := Tryz.isAgg3
  z3 := Tryz.sizeOf3
  v3 := Tryz.zeroValue3
  t4 := Tryz.underlying4
  a4 := Tryz.isAgg4
  z4 := Tryz.sizeOf4
  v4 := Tryz.zeroValue4
  t5 := Tryz.underlying5
  a5 := Tryz.isAgg5
  z5 := Tryz.sizeOf5
  v5 := Tryz.zeroValue5
  t9 := Tryz.underlying9
  a9 := Tryz.isAgg9
  z9 := Tryz.sizeOf9
  v9 := Tryz.zeroValue9
  t20 := Tryz.underlying20
  a20 := Tryz.isAgg20
  z20 := Tryz.sizeOf20
  v20 := Tryz.zeroValue20
  t37 := Tryz.underlying90
  a37 := Tryz.isAgg90
  z37 := Tryz.sizeOf90
  v37 := Tryz.zeroValue90
  t46 := Tryz.underlying271
  a46 := Tryz.isAgg271
  z46 := Tryz.sizeOf271
  v46 := Tryz.zeroValue271
  t51 := Tryz.underlying269
  a51 := Tryz.isAgg269
  z51 := Tryz.sizeOf269
  v51 := Tryz.zeroValue269
  t53 := Tryz.underlying257
  a53 := Tryz.isAgg257
  z53 := Tryz.sizeOf257
  v53 := Tryz.zeroValue257
  t171 := Tryz.underlying256
  a171 := Tryz.isAgg256
  z171 := Tryz.sizeOf256
  v171 := Tryz.zeroValue256
  t173 := Tryz.underlying260
  a173 := Tryz.isAgg260
  z173 := Tryz.sizeOf260
  v173 := Tryz.zeroValue260
  t212 := Tryz.underlying268
  a212 := Tryz.isAgg268
  z212 := Tryz.sizeOf268
  v212 := Tryz.zeroValue268
  t213 := Tryz.underlying270
  a213 := Tryz.isAgg270
  z213 := Tryz.sizeOf270
  t232 := Tryz.underlying275
  a232 := Tryz.isAgg275
  z232 := Tryz.sizeOf275
  v232 := Tryz.zeroValue275
  t233 := Tryz.underlying276
  a233 := Tryz.isAgg276
  z233 := Tryz.sizeOf276
  v233 := Tryz.zeroValue276
  g17 := by kernel_rfl
  g18 := by kernel_rfl
  g19 := by kernel_rfl
  i0 := by kernel_rfl
  i2 := by kernel_rfl
  i3 := by kernel_rfl
  i4 := by kernel_rfl
  i5 := by kernel_rfl
  i9 := by kernel_rfl
  i20 := by kernel_rfl
  i37 := by kernel_rfl
  i46 := by kernel_rfl
  i51 := by kernel_rfl
  i53 := by kernel_rfl
  i171 := by kernel_rfl
  i173 := by kernel_rfl
  i212 := by kernel_rfl
  i232 := by kernel_rfl
  i233 := by kernel_rfl
  m17 := by kernel_rfl
  m18 := by kernel_rfl
  m19 := by kernel_rfl }
open Go.RowKit Go.Sort Go.Lib in
theorem Tryz.strconv_Itoa (n : Int) (h0 : -9223372036854775808 ≤ n) (h1 : n ≤ 9223372036854775807) (w : World) (htab : Lib.TabIs Tryz.prog w "internal/strconv.uint64pow10" .u64 Lib.pow10Tab) :
    Calls Tryz.prog 137 #[.int .i64 n] w fun e w' => e = .returned (.string ⟨(Lib.itoa n).toArray⟩) ∧ ∃ k os, w' = grow (w.drewN k) os := Any.strconv_Itoa Tryz.laysM171 n h0 h1 w htab
def Tryz.lays99_ren : Go.Shelf.Ren := ⟨fun | 99 => 165 | 206 => 177 | n => n, fun | 9 => 9 | 4 => 4 | 3 => 3 | n => n, fun | n => n⟩
theorem Tryz.lays99 : Go.Proofs.Lays.n99 Tryz.prog Tryz.lays99_ren := {
  mixed := by kernel_rfl
  f99 := Tryz.func165.trans (congrArg some (by kernel_rfl))
  f206 := Tryz.func177.trans (congrArg some (by kernel_rfl))
  t3 := Tryz.underlying3
  a3 := Tryz.isAgg3
  z3 := Tryz.sizeOf3
  v3 := Tryz.zeroValue3
  t4 := Tryz.underlying4
  a4 := Tryz.isAgg4
  z4 := Tryz.sizeOf4
  v4 := Tryz.zeroValue4
  t9 := Tryz.underlying9
  a9 := Tryz.isAgg9
  z9 := Tryz.sizeOf9
  v9 := Tryz.zeroValue9 }
open Go.RowKit Go.Lib in
theorem Tryz.strings_HasPrefix (s p : ByteArray) (w : World) :
    Calls Tryz.prog 165 #[.string s, .string p] w fun e w' => e = .returned (.bool (Lib.hasPrefix s.data.toList p.data.toList)) ∧ w' = w := Any.strings_HasPrefix Tryz.lays99 s p w
end Go.Proofs
/- The reader's method symbol. -/
namespace Go.Proofs.YtbmicnajedeenaaGreatDoor
open Go.RowKit

theorem drop_data (s : ByteArray) (p : Nat) : (s.extract p s.size).data.toList = s.data.toList.drop p := by
  rw [Lib.extract_data, List.take_of_length_le]
  rw [List.length_drop, len_data]; omega
theorem symB_prefix (s : ByteArray) (p k : Nat) (hps : p ≤ s.size) (h : (symList.getD k []).isPrefixOf (s.data.toList.drop p) = true) : p + (symB k).size ≤ s.size ∧ s.extract p (p + (symB k).size) = symB k := by
  rw [List.isPrefixOf_iff_prefix] at h
  obtain ⟨t, ht⟩ := h
  have hl : (symB k).size = (symList.getD k []).length := by rw [← len_data]; rfl
  have h1 : (symList.getD k []).length + t.length = s.size - p := by rw [← List.length_append, ht, List.length_drop, len_data]
  refine ⟨by omega, ?_⟩
  apply Go.WideShapes.bytes_inj
  rw [Lib.extract_data, ← ht, hl, show p + (symList.getD k []).length - p = (symList.getD k []).length from by omega, List.take_left']
  · rfl
  · rfl

set_option maxHeartbeats 600000 in
theorem symbol_any (b : Nat) (s : ByteArray) (p : Nat) (q : Int) (w : World) (hS : Src w b s p q) (hY : Syms w) (hs : s.size ≤ 30000) (hp : p ≤ s.size) :
    Calls Tryz.prog 145 #[.pointer (some ⟨b, 0, none⟩)] w fun e w' => e = .returned (.string (strB (symAt (s.data.toList.drop p)))) ∧ Moved w w' b s ((p + (symAt (s.data.toList.drop p)).length : Nat) : Int) q := by
  obtain ⟨tt, fr, hg⟩ := hY
  have HE := Lib.hid (drop_data s p)
  have HS := Lib.hid hS
  clear hS
  go_enter Tryz.func145, Tryz.ntmps145
  go_wp2_with (refine wpList_load_row rfl 237 _ rfl 1 rfl tt _ fr _ hg Tryz.underlying237 rfl (by kernel_rfl) ?_)
  clear hg
  go_loopw [6] (fun i wr => ∃ k : Nat, k ≤ 20 ∧ i = .int .i64 (k : Int) ∧ Hid (Src wr b s p q) ∧ Hid (w.grownBy wr (some b)) ∧ Hid (∀ j, j < k → (symList.getD j []).isPrefixOf (s.data.toList.drop p) = false)) (fun i _ => 20 - (intOf i).toNat)
  case atStart => exact ⟨0, by omega, rfl, HS, World.grownBy.refl _ _, fun j h => by omega⟩
  case round =>
    clear HS
    obtain ⟨k, hk, rfl, HS, HG, HA⟩ := hrel
    have h0 := HS.out.c0
    have h1 := HS.out.c1
    by_cases hlt : k < 20
    · have hix := sym_ix k hlt
      by_cases he : (symList.getD k []).isPrefixOf (s.data.toList.drop p) = true
      · have HC : Hid (∀ w, Calls Tryz.prog 165 #[.string (s.extract p s.size), .string (symB k)] w fun e w' => e = .returned (.bool true) ∧ w' = w) := fun w =>
          (Tryz.strings_HasPrefix _ _ w).mono fun e w' h => ⟨by rw [h.1]; apply ret_bool; rw [HE.out]; exact he, h.2⟩
        have HR := Lib.hid (symAt_first _ k hlt he HA.out)
        have HT : Hid (∀ w : World, Src w b s p q → Calls Tryz.prog 164 #[.pointer (some ⟨b, 0, none⟩), .int .i64 ((symB k).size : Int)] w fun e w' => e = .returned (.string (symB k)) ∧ Moved w w' b s ((p + (symB k).size : Nat) : Int) q) := fun w h => by
          have hx := symB_prefix s p k hp he
          have := take_any b s p (symB k).size q w h hs hx.1
          rw [hx.2] at this
          exact this
        clear he HA
        go_wp2_with fail
        go_quiet ((go_at_call 165; exact Calls.quiet_of_same (HC.out _)))
        go_wp2_with (go_at_call 164; refine (HT.out _ (HS.out.drewN nq)).mono ?_; rintro e w' ⟨rfl, HM⟩)
        go_ret
        rw [HR.out]
        refine ⟨rfl, Moved.mk' ?_ (grown_trans (grown_trans HG.out (grown_drewN _ nq _)) HM.2)⟩
        have := HM.1
        rw [show (symB k).size = (symList.getD k []).length from by rw [← len_data]; rfl] at this
        exact this
      · have HC : Hid (∀ w, Calls Tryz.prog 165 #[.string (s.extract p s.size), .string (symB k)] w fun e w' => e = .returned (.bool false) ∧ w' = w) := fun w =>
          (Tryz.strings_HasPrefix _ _ w).mono fun e w' h => ⟨by rw [h.1]; apply ret_bool; rw [HE.out]; exact Bool.eq_false_iff.2 he, h.2⟩
        have HA2 : Hid (∀ j, j < k + 1 → (symList.getD j []).isPrefixOf (s.data.toList.drop p) = false) := fun j hj => by
          by_cases e : j = k
          · subst e; exact Bool.eq_false_iff.2 he
          · exact HA.out j (by omega)
        clear he HA
        go_wp2_with fail
        go_quiet ((go_at_call 165; exact Calls.quiet_of_same (HC.out _)))
        go_wp2_with fail
        go_roundw
        case rel => exact ⟨k + 1, by omega, by go_num, HS.out.drewN nq, grown_trans HG.out (grown_drewN _ nq _), HA2⟩
        case measure => simp [intOf]; omega
    · obtain rfl : k = 20 := by omega
      have HR := Lib.hid (symAt_none _ HA.out)
      clear HA
      go_wp2_with fail
      go_ret
      rw [HR.out]
      exact ⟨rfl, Moved.mk' HS.out HG.out⟩
end Go.Proofs.YtbmicnajedeenaaGreatDoor
/- IsVar, IsUpper, Digits, tokenOf. -/
namespace Go.Proofs.YtbmicnajedeenaaGreatDoor
open Go.RowKit

/-- the table of powers lies as the library's text lays it -/
def Tab (w : World) : Prop := ∃ t fr, w.heap[4]? = some (.cells (Lib.pow10Tab.map fun z => Value.int .u64 z).toArray t fr)
theorem Tab.is {w : World} (h : Tab w) : Lib.TabIs Tryz.prog w "internal/strconv.uint64pow10" .u64 Lib.pow10Tab := by
  obtain ⟨t, fr, e⟩ := h
  have hg : Tryz.prog.globalNamed "internal/strconv.uint64pow10" = some 4 := by kernel_rfl
  unfold Lib.TabIs World.var?
  rw [hg]
  simp only [Option.bind_some, e]
def Env (w : World) : Prop := Syms w ∧ Tab w
theorem Env.lt {w : World} (h : Env w) : 4 < w.heap.size := by obtain ⟨_, t, fr, e⟩ := h; exact (Array.getElem?_eq_some_iff.1 e).1
theorem Env.grown {w w' : World} {row : Option Nat} (h : Env w) (hg : w.grownBy w' row) (h0 : some 1 ≠ row) (h2 : some 4 ≠ row) : Env w' := by
  refine ⟨h.1.grown hg h0, ?_⟩
  have hl := h.lt
  obtain ⟨_, t, fr, e⟩ := h
  exact ⟨t, fr, (hg.block 4 hl h2).trans e⟩
theorem Env.below {w w' : World} (h : Env w) (hb : Below w.heap.size w w') : Env w' := h.grown (grown_below hb none) (by simp) (by simp)
theorem below_call {w w1 w2 : World} (h : Below w.heap.size w w1) (hb : Below w1.heap.size w1 w2) : Below w.heap.size w w2 := h.trans (hb.mono h.size)

def isV (l : List UInt8) : Bool := isNm 1 l && !isKw l

set_option maxHeartbeats 400000 in
theorem IsVar_any (s : ByteArray) (w : World) (hs : s.size ≤ maxLen) : Calls Tryz.prog 97 #[.string s] w fun e w' => e = .returned (.bool (isV s.data.toList)) ∧ Below w.heap.size w w' := by
  unfold isV
  cases h1 : isNm 1 s.data.toList with
  | false =>
    have H1 : Hid (∀ w, Calls Tryz.prog 89 #[.string s, .int .i64 1] w fun e w' => e = .returned (.bool false) ∧ Below w.heap.size w w') := fun w => (isName_any s 1 w hs).mono fun e w' h => ⟨by rw [h.1, h1], h.2⟩
    clear h1
    go_enter Tryz.func97, Tryz.ntmps97
    go_wp2_with (go_at_call 89; refine (H1.out _).mono ?_; rintro e w' ⟨rfl, hb⟩)
    go_ret
    exact ⟨ret_bool rfl, hb⟩
  | true =>
    have H1 : Hid (∀ w, Calls Tryz.prog 89 #[.string s, .int .i64 1] w fun e w' => e = .returned (.bool true) ∧ Below w.heap.size w w') := fun w => (isName_any s 1 w hs).mono fun e w' h => ⟨by rw [h.1, h1], h.2⟩
    clear h1
    have HK := Lib.hid (fun w => Keyword_any s w hs)
    go_enter Tryz.func97, Tryz.ntmps97
    go_wp2_with (first | (go_at_call 89; refine (H1.out _).mono ?_; rintro e w1 ⟨rfl, hb⟩) | (go_at_call 135; refine (HK.out _).mono ?_; rintro e w2 ⟨rfl, hb2⟩))
    go_ret
    exact ⟨ret_bool (by simp), hb.trans (hb2.mono hb.size)⟩

set_option maxHeartbeats 400000 in
theorem IsUpper_any (s : ByteArray) (w : World) (hs : s.size ≤ maxLen) : Calls Tryz.prog 39 #[.string s] w fun e w' => e = .returned (.bool (isNm 2 s.data.toList)) ∧ Below w.heap.size w w' := by
  have H1 := Lib.hid (fun w => isName_any s 2 w hs)
  go_enter Tryz.func39, Tryz.ntmps39
  go_wp2_with (go_at_call 89; refine (H1.out _).mono ?_; rintro e w' ⟨rfl, hb⟩)
  go_ret
  exact ⟨rfl, hb⟩

set_option maxHeartbeats 400000 in
theorem Digits_any (n : Int) (w : World) (h : -9223372036854775808 ≤ n ∧ n ≤ 9223372036854775807) (hT : Tab w) : Calls Tryz.prog 100 #[.int .i64 n] w fun e w' => e = .returned (.string (strB (Lib.itoa n))) ∧ Below w.heap.size w w' := by
  have H1 : Hid (Calls Tryz.prog 137 #[.int .i64 n] w fun e w' => e = .returned (.string (strB (Lib.itoa n))) ∧ Below w.heap.size w w') :=
    (Tryz.strconv_Itoa n h.1 h.2 w hT.is).mono fun e w' h => ⟨h.1, by obtain ⟨k, os, rfl⟩ := h.2; exact Lib.below_grow _ _ (Nat.le_refl _) k os⟩
  clear h
  go_enter Tryz.func100, Tryz.ntmps100
  go_wp2_with (go_at_call 137; refine (Calls.mono H1.out ?_); rintro e w' ⟨rfl, hb⟩)
  go_ret
  exact ⟨rfl, hb⟩

def TokRes (o : Option (Int × List UInt8 × Int)) : Ending :=
  match o with
  | some (k, s, n) => .returned (.tuple #[.agg #[.int .i64 k, .string (strB s), .int .i64 n, .int .i64 0], .bool true])
  | none => .returned (.tuple #[.agg #[.int .i64 0, .string ⟨#[]⟩, .int .i64 0, .int .i64 0], .bool false])
theorem TokRes_some {o : Option (Int × List UInt8 × Int)} {k n : Int} {s : List UInt8} (h : o = some (k, s, n)) : Ending.returned (.tuple #[.agg #[.int .i64 k, .string (strB s), .int .i64 n, .int .i64 0], .bool true]) = TokRes o := by rw [h]; rfl
theorem TokRes_none {o : Option (Int × List UInt8 × Int)} (h : o = none) : Ending.returned (.tuple #[.agg #[.int .i64 0, .string ⟨#[]⟩, .int .i64 0, .int .i64 0], .bool false]) = TokRes o := by rw [h]; rfl

/-- a token lies in block g -/
def TB (w : World) (g : Nat) (k : Int) (s : ByteArray) (n pos : Int) : Prop := w.heap[g]? = some (.cells #[.int .i64 k, .string s, .int .i64 n, .int .i64 pos] 146 (0, 0))
section
variable {w w' : World} {g : Nat} {s : ByteArray} {k n pos : Int}
theorem TB.lt (h : TB w g k s n pos) : g < w.heap.size := (Array.getElem?_eq_some_iff.1 h).1
theorem TB.c0 (h : TB w g k s n pos) : w.cell? ⟨g, 0, none⟩ = some (.int .i64 k) := cell_of_row w g 0 _ 146 (0, 0) h
theorem TB.c1 (h : TB w g k s n pos) : w.cell? ⟨g, 1, none⟩ = some (.string s) := cell_of_row w g 1 _ 146 (0, 0) h
theorem TB.c2 (h : TB w g k s n pos) : w.cell? ⟨g, 2, none⟩ = some (.int .i64 n) := cell_of_row w g 2 _ 146 (0, 0) h
theorem TB.c3 (h : TB w g k s n pos) : w.cell? ⟨g, 3, none⟩ = some (.int .i64 pos) := cell_of_row w g 3 _ 146 (0, 0) h
theorem TB.fr (h : TB w g k s n pos) (i : Nat) : w.frozen? ⟨g, i, none⟩ = false := by
  unfold TB at h; simp [World.frozen?, h]
theorem TB.new (w : World) (k : Int) (s : ByteArray) (n pos : Int) : TB (w.alloc (.cells #[.int .i64 k, .string s, .int .i64 n, .int .i64 pos] 146)) w.heap.size k s n pos := heap_alloc_new w _
theorem TB.kept (h : TB w g k s n pos) {row : Option Nat} (hg : w.grownBy w' row) (hne : some g ≠ row) : TB w' g k s n pos := (hg.block g h.lt hne).trans h
theorem TB.below (h : TB w g k s n pos) (hb : Below w.heap.size w w') : TB w' g k s n pos := (hb.block g h.lt).trans h
theorem TB.drewN (h : TB w g k s n pos) (m : Nat) : TB (w.drewN m) g k s n pos := h
theorem TB.set0 (h : TB w g k s n pos) (x : Int) : TB (w.setCell ⟨g, 0, none⟩ (.int .i64 x)) g x s n pos := by
  unfold TB at h ⊢; simp [World.setCell, Array.getElem?_modify, h]
theorem TB.set1 (h : TB w g k s n pos) (x : ByteArray) : TB (w.setCell ⟨g, 1, none⟩ (.string x)) g k x n pos := by
  unfold TB at h ⊢; simp [World.setCell, Array.getElem?_modify, h]
theorem TB.set2 (h : TB w g k s n pos) (x : Int) : TB (w.setCell ⟨g, 2, none⟩ (.int .i64 x)) g k s x pos := by
  unfold TB at h ⊢; simp [World.setCell, Array.getElem?_modify, h]
theorem TB.set3 (h : TB w g k s n pos) (x : Int) : TB (w.setCell ⟨g, 3, none⟩ (.int .i64 x)) g k s n x := by
  unfold TB at h ⊢; simp [World.setCell, Array.getElem?_modify, h]
theorem TB.all (h : TB w g k s n pos) (k' : Int) (s' : ByteArray) (n' pos' : Int) :
    TB ((((w.setCell ⟨g, 0, none⟩ (.int .i64 k')).setCell ⟨g, 1, none⟩ (.string s')).setCell ⟨g, 2, none⟩ (.int .i64 n')).setCell ⟨g, 3, none⟩ (.int .i64 pos')) g k' s' n' pos' := (((h.set0 k').set1 s').set2 n').set3 pos'
end
theorem bset {w w1 : World} {B b o : Nat} (h : Below B w w1) (hb : B ≤ b) (v : Value) : Below B w (w1.setCell ⟨b, o, none⟩ v) := Below.setCell h (p := ⟨b, o, none⟩) hb v
theorem ball {w w1 : World} {B b : Nat} (h : Below B w w1) (hb : B ≤ b) (v0 v1 v2 v3 : Value) : Below B w ((((w1.setCell ⟨b, 0, none⟩ v0).setCell ⟨b, 1, none⟩ v1).setCell ⟨b, 2, none⟩ v2).setCell ⟨b, 3, none⟩ v3) := bset (bset (bset (bset h hb _) hb _) hb _) hb _
theorem res55 {tmps : Array Value} {w : World} {g : Nat} {k n pos : Int} {s : ByteArray} {b : Bool} (h2 : tmps.getD 2 undef = .pointer (some ⟨g, 0, none⟩)) (h3 : tmps.getD 3 undef = .bool b) (h : TB w g k s n pos) :
    (results Tryz.f146 tmps).run Tryz.prog w = .ok (.tuple #[.agg #[.int .i64 k, .string s, .int .i64 n, .int .i64 pos], .bool b]) w := by
  have c0 := h.c0
  have c1 := h.c1
  have c2 := h.c2
  have c3 := h.c3
  have h2' : tmps[2]?.getD undef = .pointer (some ⟨g, 0, none⟩) := by simpa using h2
  have h3' : tmps[3]?.getD undef = .bool b := by simpa using h3
  simp [results, Tryz.results146, go_sem, h2', h3', c0, c1, c2, c3]

set_option maxHeartbeats 400000 in
theorem tokenOf_int (s : ByteArray) (n : Int) (w : World) (hs : s.size ≤ maxLen) (hi : integerS s.data.toList = some n) :
    Calls Tryz.prog 146 #[.string s] w fun e w' => e = TokRes (tokS s.data.toList) ∧ Below w.heap.size w w' := by
  have HR := Lib.hid (show tokS s.data.toList = some (3, [], n) by unfold tokS; rw [hi])
  have HI : Hid (∀ w, Calls Tryz.prog 166 #[.string s] w fun e w' => e = .returned (.tuple #[.int .i64 n, .bool true]) ∧ Below w.heap.size w w') := fun w => (integer_any s w hs).mono fun e w' h => ⟨by rw [h.1, hi]; rfl, h.2⟩
  clear hi
  have HN := Lib.hid (TB.new w 0 ⟨#[]⟩ 0 0)
  have HA := Lib.hid ((Below.refl w.heap.size w).alloc (Nat.le_refl _) (.cells #[.int .i64 0, .string ⟨#[]⟩, .int .i64 0, .int .i64 0] 146))
  go_enter Tryz.func146, Tryz.ntmps146
  go_wp2_with (go_at_call 166; refine (HI.out _).mono ?_; rintro e w' ⟨rfl, hb⟩; have HB1 := Lib.hid (below_call HA.out hb); have HT1 := Lib.hid (HN.out.below hb); clear hb; have c0 := HT1.out.c0; have c1 := HT1.out.c1; have c2 := HT1.out.c2; have c3 := HT1.out.c3; have f0 := HT1.out.fr 0; have f1 := HT1.out.fr 1; have f2 := HT1.out.fr 2; have f3 := HT1.out.fr 3)
  exact bodyPost_ret (res55 rfl rfl (HT1.out.all 3 ⟨#[]⟩ n 0)) rfl ⟨TokRes_some HR.out, ball HB1.out (Nat.le_refl _) _ _ _ _⟩

theorem tok_none {l : List UInt8} (h : integerS l = none) : tokS l = if isKw l then some (1, l, 0) else if isNm 1 l then some (0, l, 0) else if isNm 2 l then some (2, l, 0) else if isSym l then some (4, l, 0) else none := by
  unfold tokS; rw [h]

set_option maxHeartbeats 1000000 in
theorem tokenOf_rest (s : ByteArray) (w : World) (hs : s.size ≤ maxLen) (hY : Syms w) (hi : integerS s.data.toList = none) :
    Calls Tryz.prog 146 #[.string s] w fun e w' => e = TokRes (tokS s.data.toList) ∧ Below w.heap.size w w' := by
  have HI : Hid (∀ w, Calls Tryz.prog 166 #[.string s] w fun e w' => e = .returned (.tuple #[.int .i64 0, .bool false]) ∧ Below w.heap.size w w') := fun w => (integer_any s w hs).mono fun e w' h => ⟨by rw [h.1, hi]; rfl, h.2⟩
  have HT := Lib.hid (tok_none hi)
  have HY := Lib.hid hY
  clear hi hY
  have HN := Lib.hid (TB.new w 0 ⟨#[]⟩ 0 0)
  have HA := Lib.hid ((Below.refl w.heap.size w).alloc (Nat.le_refl _) (.cells #[.int .i64 0, .string ⟨#[]⟩, .int .i64 0, .int .i64 0] 146))
  cases hk : isKw s.data.toList with
  | true =>
    have HR := Lib.hid (show tokS s.data.toList = some (1, s.data.toList, 0) by rw [HT.out, hk]; rfl)
    have HK : Hid (∀ w, Calls Tryz.prog 135 #[.string s] w fun e w' => e = .returned (.bool true) ∧ Below w.heap.size w w') := fun w => (Keyword_any s w hs).mono fun e w' h => ⟨by rw [h.1, hk], h.2⟩
    clear hk HT HY
    go_enter Tryz.func146, Tryz.ntmps146
    go_wp2_with (first
      | (go_at_call 166; refine (HI.out _).mono ?_; rintro e w1 ⟨rfl, hb⟩; have HB1 := Lib.hid (below_call HA.out hb); have HT1 := Lib.hid (HN.out.below hb); clear hb; have c0 := HT1.out.c0; have c1 := HT1.out.c1; have c2 := HT1.out.c2; have c3 := HT1.out.c3; have f0 := HT1.out.fr 0; have f1 := HT1.out.fr 1; have f2 := HT1.out.fr 2; have f3 := HT1.out.fr 3)
      | (go_at_call 135; refine (HK.out _).mono ?_; rintro e w2 ⟨rfl, hb⟩; have HB2 := Lib.hid (below_call (bset HB1.out (Nat.le_refl _) _) hb); have HT2 := Lib.hid ((HT1.out.set1 s).below hb); clear hb; have d0 := HT2.out.c0; have d1 := HT2.out.c1; have d2 := HT2.out.c2; have d3 := HT2.out.c3; have e0 := HT2.out.fr 0; have e1 := HT2.out.fr 1; have e2 := HT2.out.fr 2; have e3 := HT2.out.fr 3))
    exact bodyPost_ret (res55 rfl rfl ((HT2.out.set0 1).all 1 s 0 0)) rfl ⟨TokRes_some HR.out, ball (bset HB2.out (Nat.le_refl _) _) (Nat.le_refl _) _ _ _ _⟩
  | false =>
    have HK : Hid (∀ w, Calls Tryz.prog 135 #[.string s] w fun e w' => e = .returned (.bool false) ∧ Below w.heap.size w w') := fun w => (Keyword_any s w hs).mono fun e w' h => ⟨by rw [h.1, hk], h.2⟩
    have HM : Hid (∀ k w, Calls Tryz.prog 89 #[.string s, .int .i64 k] w fun e w' => e = .returned (.bool (isNm k s.data.toList)) ∧ Below w.heap.size w w') := fun k w => isName_any s k w hs
    cases h1 : isNm 1 s.data.toList with
    | true =>
      have HR := Lib.hid (show tokS s.data.toList = some (0, s.data.toList, 0) by rw [HT.out, hk, h1]; rfl)
      clear hk HT HY
      go_enter Tryz.func146, Tryz.ntmps146
      go_wp2_with (first
        | (go_at_call 166; refine (HI.out _).mono ?_; rintro e w1 ⟨rfl, hb⟩; have HB1 := Lib.hid (below_call HA.out hb); have HT1 := Lib.hid (HN.out.below hb); clear hb; have c0 := HT1.out.c0; have c1 := HT1.out.c1; have c2 := HT1.out.c2; have c3 := HT1.out.c3; have f0 := HT1.out.fr 0; have f1 := HT1.out.fr 1; have f2 := HT1.out.fr 2; have f3 := HT1.out.fr 3)
        | (go_at_call 135; refine (HK.out _).mono ?_; rintro e w2 ⟨rfl, hb⟩; have HB2 := Lib.hid (below_call (bset HB1.out (Nat.le_refl _) _) hb); have HT2 := Lib.hid ((HT1.out.set1 s).below hb); clear hb)
        | (go_at_call 89; refine (HM.out _ _).mono ?_; rintro e w3 ⟨rfl, hb⟩; have X := Lib.hid (below_call HB2.out hb); have Y := Lib.hid (HT2.out.below hb); clear HB2 HT2 hb; have HB2 := X; have HT2 := Y; clear X Y; have d0 := HT2.out.c0; have d1 := HT2.out.c1; have d2 := HT2.out.c2; have d3 := HT2.out.c3; have e0 := HT2.out.fr 0; have e1 := HT2.out.fr 1; have e2 := HT2.out.fr 2; have e3 := HT2.out.fr 3))
      exact bodyPost_ret (res55 rfl rfl ((HT2.out.set0 0).all 0 s 0 0)) rfl ⟨TokRes_some HR.out, ball (bset HB2.out (Nat.le_refl _) _) (Nat.le_refl _) _ _ _ _⟩
    | false =>
      cases h2 : isNm 2 s.data.toList with
      | true =>
        have HR := Lib.hid (show tokS s.data.toList = some (2, s.data.toList, 0) by rw [HT.out, hk, h1, h2]; rfl)
        clear hk HT HY
        go_enter Tryz.func146, Tryz.ntmps146
        go_wp2_with (first
          | (go_at_call 166; refine (HI.out _).mono ?_; rintro e w1 ⟨rfl, hb⟩; have HB1 := Lib.hid (below_call HA.out hb); have HT1 := Lib.hid (HN.out.below hb); clear hb; have c0 := HT1.out.c0; have c1 := HT1.out.c1; have c2 := HT1.out.c2; have c3 := HT1.out.c3; have f0 := HT1.out.fr 0; have f1 := HT1.out.fr 1; have f2 := HT1.out.fr 2; have f3 := HT1.out.fr 3)
          | (go_at_call 135; refine (HK.out _).mono ?_; rintro e w2 ⟨rfl, hb⟩; have HB2 := Lib.hid (below_call (bset HB1.out (Nat.le_refl _) _) hb); have HT2 := Lib.hid ((HT1.out.set1 s).below hb); clear hb)
          | (go_at_call 89; refine (HM.out _ _).mono ?_; rintro e w3 ⟨rfl, hb⟩; have X := Lib.hid (below_call HB2.out hb); have Y := Lib.hid (HT2.out.below hb); clear HB2 HT2 hb; have HB2 := X; have HT2 := Y; clear X Y; have d0 := HT2.out.c0; have d1 := HT2.out.c1; have d2 := HT2.out.c2; have d3 := HT2.out.c3; have e0 := HT2.out.fr 0; have e1 := HT2.out.fr 1; have e2 := HT2.out.fr 2; have e3 := HT2.out.fr 3))
        exact bodyPost_ret (res55 rfl rfl ((HT2.out.set0 2).all 2 s 0 0)) rfl ⟨TokRes_some HR.out, ball (bset HB2.out (Nat.le_refl _) _) (Nat.le_refl _) _ _ _ _⟩
      | false =>
        cases h3 : isSym s.data.toList with
        | true =>
          have HR := Lib.hid (show tokS s.data.toList = some (4, s.data.toList, 0) by rw [HT.out, hk, h1, h2, h3]; rfl)
          clear hk HT
          go_enter Tryz.func146, Tryz.ntmps146
          go_wp2_with (first
            | (go_at_call 166; refine (HI.out _).mono ?_; rintro e w1 ⟨rfl, hb⟩; have HB1 := Lib.hid (below_call HA.out hb); have HT1 := Lib.hid (HN.out.below hb); clear hb; have c0 := HT1.out.c0; have c1 := HT1.out.c1; have c2 := HT1.out.c2; have c3 := HT1.out.c3; have f0 := HT1.out.fr 0; have f1 := HT1.out.fr 1; have f2 := HT1.out.fr 2; have f3 := HT1.out.fr 3)
            | (go_at_call 135; refine (HK.out _).mono ?_; rintro e w2 ⟨rfl, hb⟩; have HB2 := Lib.hid (below_call (bset HB1.out (Nat.le_refl _) _) hb); have HT2 := Lib.hid ((HT1.out.set1 s).below hb); clear hb)
            | (go_at_call 89; refine (HM.out _ _).mono ?_; rintro e w3 ⟨rfl, hb⟩; have X := Lib.hid (below_call HB2.out hb); have Y := Lib.hid (HT2.out.below hb); clear HB2 HT2 hb; have HB2 := X; have HT2 := Y; clear X Y; have d0 := HT2.out.c0; have d1 := HT2.out.c1; have d2 := HT2.out.c2; have d3 := HT2.out.c3; have e0 := HT2.out.fr 0; have e1 := HT2.out.fr 1; have e2 := HT2.out.fr 2; have e3 := HT2.out.fr 3)
            | (go_at_call 167; refine (isSymbol_any s _ (HY.out.below HB2.out HY.out.pos)).mono ?_; rintro e w4 ⟨rfl, rfl⟩))
          exact bodyPost_ret (res55 rfl rfl ((HT2.out.set0 4).all 4 s 0 0)) rfl ⟨TokRes_some HR.out, ball (bset HB2.out (Nat.le_refl _) _) (Nat.le_refl _) _ _ _ _⟩
        | false =>
          have HR := Lib.hid (show tokS s.data.toList = none by rw [HT.out, hk, h1, h2, h3]; rfl)
          clear hk HT
          go_enter Tryz.func146, Tryz.ntmps146
          go_wp2_with (first
            | (go_at_call 166; refine (HI.out _).mono ?_; rintro e w1 ⟨rfl, hb⟩; have HB1 := Lib.hid (below_call HA.out hb); have HT1 := Lib.hid (HN.out.below hb); clear hb; have c0 := HT1.out.c0; have c1 := HT1.out.c1; have c2 := HT1.out.c2; have c3 := HT1.out.c3; have f0 := HT1.out.fr 0; have f1 := HT1.out.fr 1; have f2 := HT1.out.fr 2; have f3 := HT1.out.fr 3)
            | (go_at_call 135; refine (HK.out _).mono ?_; rintro e w2 ⟨rfl, hb⟩; have HB2 := Lib.hid (below_call (bset HB1.out (Nat.le_refl _) _) hb); have HT2 := Lib.hid ((HT1.out.set1 s).below hb); clear hb)
            | (go_at_call 89; refine (HM.out _ _).mono ?_; rintro e w3 ⟨rfl, hb⟩; have X := Lib.hid (below_call HB2.out hb); have Y := Lib.hid (HT2.out.below hb); clear HB2 HT2 hb; have HB2 := X; have HT2 := Y; clear X Y; have d0 := HT2.out.c0; have d1 := HT2.out.c1; have d2 := HT2.out.c2; have d3 := HT2.out.c3; have e0 := HT2.out.fr 0; have e1 := HT2.out.fr 1; have e2 := HT2.out.fr 2; have e3 := HT2.out.fr 3)
            | (go_at_call 167; refine (isSymbol_any s _ (HY.out.below HB2.out HY.out.pos)).mono ?_; rintro e w4 ⟨rfl, rfl⟩))
          exact bodyPost_ret (res55 rfl rfl (HT2.out.all 0 ⟨#[]⟩ 0 0)) rfl ⟨TokRes_none HR.out, ball HB2.out (Nat.le_refl _) _ _ _ _⟩

theorem tokenOf_any (s : ByteArray) (w : World) (hs : s.size ≤ maxLen) (hY : Syms w) :
    Calls Tryz.prog 146 #[.string s] w fun e w' => e = TokRes (tokS s.data.toList) ∧ Below w.heap.size w w' := by
  cases h : integerS s.data.toList with
  | some n => exact tokenOf_int s n w hs h
  | none => exact tokenOf_rest s w hs hY h
end Go.Proofs.YtbmicnajedeenaaGreatDoor
/- firstOf: what the first of the given ways of reading that reads anything has read. -/
namespace Go.Proofs.YtbmicnajedeenaaGreatDoor
open Go.RowKit

theorem part_word (l : List UInt8) (h : wordLen l ≠ 0) : partOf l = l.take (wordLen l) := by unfold partOf; rw [if_neg h]
theorem part_sym (l : List UInt8) (h : wordLen l = 0) : partOf l = symAt l := by unfold partOf; rw [if_pos h]
theorem extract_take (s : ByteArray) (p n : Nat) : s.extract p (p + n) = strB ((s.data.toList.drop p).take n) := by
  apply Go.WideShapes.bytes_inj
  rw [Lib.extract_data, data_strB, Nat.add_sub_cancel_left]
theorem strB_ne_list {l : List UInt8} (h : l ≠ []) : (strB l).toList.isEmpty = false := by rw [ByteArray.toList_eq, data_strB]; simpa using h

def bound (f : Nat) (b : Nat) : Value := .func (.func f) #[.pointer (some ⟨b, 0, none⟩)] #[]
/-- the two ways of reading lie in block g -/
def Ways (w : World) (g b : Nat) : Prop := w.heap[g]? = some (.cells #[bound 144 b, bound 145 b] 88 (0, 0))
theorem Ways.lt {w : World} {g b : Nat} (h : Ways w g b) : g < w.heap.size := (Array.getElem?_eq_some_iff.1 h).1
theorem Ways.c0 {w : World} {g b : Nat} (h : Ways w g b) : w.cell? ⟨g, 0, none⟩ = some (.func (.func 144) #[.pointer (some ⟨b, 0, none⟩)] #[]) := cell_of_row w g 0 _ 88 (0, 0) h
theorem Ways.c1 {w : World} {g b : Nat} (h : Ways w g b) : w.cell? ⟨g, 1, none⟩ = some (.func (.func 145) #[.pointer (some ⟨b, 0, none⟩)] #[]) := cell_of_row w g 1 _ 88 (0, 0) h
theorem Ways.kept {w w' : World} {g b : Nat} (h : Ways w g b) {row : Option Nat} (hg : w.grownBy w' row) (hne : some g ≠ row) : Ways w' g b := (hg.block g h.lt hne).trans h
theorem Ways.ne {w : World} {g b : Nat} {s : ByteArray} {p q : Int} (h : Ways w g b) (hs : Src w b s p q) : g ≠ b := by
  rintro rfl
  unfold Ways at h; unfold Src at hs
  rw [h] at hs
  injection hs with hs
  injection hs with _ ht
  cases ht

set_option maxHeartbeats 1000000 in
theorem firstOf_any (g b : Nat) (s : ByteArray) (p : Nat) (q : Int) (w : World) (hS : Src w b s p q) (hY : Syms w) (hb0 : b ≠ 1) (hW : Ways w g b) (hs : s.size ≤ 30000) (hp : p ≤ s.size) :
    Calls Tryz.prog 147 #[.slice (some ⟨g, 0, none⟩) 2 2] w fun e w' => e = .returned (.string (strB (partOf (s.data.toList.drop p)))) ∧ Moved w w' b s ((p + (partOf (s.data.toList.drop p)).length : Nat) : Int) q := by
  have HS := Lib.hid hS
  have HW := Lib.hid hW
  have HY := Lib.hid hY
  clear hS hW hY
  go_enter Tryz.func147, Tryz.ntmps147
  go_wp2_with fail
  go_loopw [8] (fun i wr => ∃ k : Nat, i = .int .i64 (k : Int) ∧ k ≤ 2 ∧ Hid (Src wr b s p q) ∧ Hid (w.grownBy wr (some b)) ∧ Hid (1 ≤ k → wordLen (s.data.toList.drop p) = 0) ∧ Hid (2 ≤ k → partOf (s.data.toList.drop p) = [])) (fun i _ => 2 - (intOf i).toNat)
  case atStart => exact ⟨0, rfl, by omega, HS, World.grownBy.refl _ _, (fun h => by omega), (fun h => by omega)⟩
  case round =>
    obtain ⟨k, rfl, hk, HS1, HG, H1, H2⟩ := hrel
    have HW1 := Lib.hid (HW.out.kept HG.out (by simp [HW.out.ne HS.out]))
    have w0 := HW1.out.c0
    have w1 := HW1.out.c1
    have HY1 := Lib.hid (HY.out.grown HG.out (by simp; omega))
    obtain rfl | rfl | rfl : k = 0 ∨ k = 1 ∨ k = 2 := by omega
    · by_cases hw : wordLen (s.data.toList.drop p) = 0
      · have HC : Hid (∀ w, Src w b s p q → Calls Tryz.prog 144 #[.pointer (some ⟨b, 0, none⟩)] w fun e w' => e = .returned (.string ⟨#[]⟩) ∧ Moved w w' b s p q) := fun w h => (word_any b s p q w h hs hp).mono fun e w' h => ⟨by rw [h.1, extract_take, hw]; rfl, by have := h.2; rw [hw] at this; exact this⟩
        have HWL := Lib.hid hw
        clear hw
        go_wp2_with (go_at_call 144; refine (HC.out _ HS1.out).mono ?_; rintro e w2 ⟨rfl, HM⟩)
        go_roundw
        case rel => exact ⟨1, rfl, by omega, HM.1, grown_trans HG.out HM.2, (fun _ => HWL.out), (fun h => by omega)⟩
        case measure => simp [intOf]
      · have HP := Lib.hid (part_word _ hw)
        have hne : partOf (s.data.toList.drop p) ≠ [] := by
          rw [HP.out]; intro h
          have := congrArg List.length h
          rw [List.length_take, Nat.min_eq_left (wordLen_le _)] at this
          exact hw this
        have HC : Hid (∀ w, Src w b s p q → Calls Tryz.prog 144 #[.pointer (some ⟨b, 0, none⟩)] w fun e w' => e = .returned (.string (strB (partOf (s.data.toList.drop p)))) ∧ Moved w w' b s ((p + (partOf (s.data.toList.drop p)).length : Nat) : Int) q) := fun w h => (word_any b s p q w h hs hp).mono fun e w' h => ⟨by rw [h.1, extract_take, HP.out], by
          have := h.2
          rw [HP.out, List.length_take, Nat.min_eq_left (wordLen_le _)]; exact this⟩
        have hb := strB_ne_list hne
        clear hw hne HP
        go_wp2_with (go_at_call 144; refine (HC.out _ HS1.out).mono ?_; rintro e w2 ⟨rfl, HM⟩)
        go_ret
        exact ⟨rfl, HM.1, grown_trans HG.out HM.2⟩
    · have HP := Lib.hid (part_sym _ (H1.out (by omega)))
      have HC : Hid (∀ w, Src w b s p q → Syms w → Calls Tryz.prog 145 #[.pointer (some ⟨b, 0, none⟩)] w fun e w' => e = .returned (.string (strB (partOf (s.data.toList.drop p)))) ∧ Moved w w' b s ((p + (partOf (s.data.toList.drop p)).length : Nat) : Int) q) := fun w h h2 => (symbol_any b s p q w h h2 hs hp).mono fun e w' h => ⟨by rw [h.1, HP.out], by rw [HP.out]; exact h.2⟩
      by_cases hne : partOf (s.data.toList.drop p) = []
      · have HC2 : Hid (∀ w, Src w b s p q → Syms w → Calls Tryz.prog 145 #[.pointer (some ⟨b, 0, none⟩)] w fun e w' => e = .returned (.string ⟨#[]⟩) ∧ Moved w w' b s p q) := fun w h h2 => (HC.out w h h2).mono fun e w' h => ⟨by rw [h.1, hne]; rfl, by have := h.2; rw [hne] at this; exact this⟩
        have HN := Lib.hid hne
        clear hne HC HP
        go_wp2_with (go_at_call 145; refine (HC2.out _ HS1.out HY1.out).mono ?_; rintro e w2 ⟨rfl, HM⟩)
        go_roundw
        case rel => exact ⟨2, rfl, by omega, HM.1, grown_trans HG.out HM.2, (fun _ => H1.out (by omega)), (fun _ => HN.out)⟩
        case measure => simp [intOf]
      · have hb := strB_ne_list hne
        clear hne HP
        go_wp2_with (go_at_call 145; refine (HC.out _ HS1.out HY1.out).mono ?_; rintro e w2 ⟨rfl, HM⟩)
        go_ret
        exact ⟨rfl, HM.1, grown_trans HG.out HM.2⟩
    · have HN := Lib.hid (H2.out (by omega))
      go_wp2_with fail
      go_ret
      rw [HN.out]
      exact ⟨rfl, HS1.out, HG.out⟩
end Go.Proofs.YtbmicnajedeenaaGreatDoor
/- tokens: the iterator over the tokens of a source. -/
namespace Go.Proofs.YtbmicnajedeenaaGreatDoor
open Go.RowKit Go.Shelf

attribute [local go_sem] Oper.semAt_some

def tkArg (x : Tk) : Value := .agg #[.int .i64 x.kind, .string (strB x.s), .int .i64 x.n, .int .i64 (x.pos : Int)]
/-- what is said of the rounds holds whatever the iterator does to its source, and to new memory -/
def Abd (bs : Nat) (J : List Tk → World → Prop) : Prop := ∀ pre W W', J pre W → W.grownBy W' (some bs) → J pre W'
/-- what a round keeps -/
def Kp (n0 : Nat) (W W' : World) : Prop := Below n0 W W' ∧ ∀ (k : Nat) (cs : Array Value) (t : TypeId) (fr : Nat × Nat), W.heap[k]? = some (Obj.cells cs t fr) → t ≠ 141 → t ≠ 146 → W'.heap[k]? = W.heap[k]?

/-- where a source stands -/
def posOf (b : Nat) (w : World) : Nat := (intOf ((w.cell? ⟨b, 1, none⟩).getD undef)).toNat
theorem posOf_src {w : World} {b : Nat} {s : ByteArray} {p q : Int} (h : Src w b s p q) : posOf b w = p.toNat := by unfold posOf; rw [h.c1]; rfl

theorem grown_drew (w : World) (row : Option Nat) : w.grownBy w.drew row := ⟨rfl, rfl, rfl, Nat.le_refl _, fun _ _ _ => rfl⟩

theorem noGoto_n {Q : Exit → Act → World → Prop} {a : Act} {w : World} (h : Q .normal a w) : Exit.noGoto Q .normal a w := by unfold Exit.noGoto; exact h
theorem fin_src {w : World} {b : Nat} {s : ByteArray} {p : Nat} {q : Int} (h : Src w b s p q) : Src w b s (posOf b w) q := by
  rw [posOf_src h, Int.toNat_natCast]; exact h

set_option maxRecDepth 100000 in
set_option maxHeartbeats 1000000 in
theorem tokens_in (n l b n0 : Nat) (s : ByteArray) (xs : List Tk) (fin : Nat) (q0 : Int) (J : List Tk → World → Prop) (hJ : Abd b J) (hn : 3 ≤ n)
    (hY : ∀ pre x W, J pre W → pre ++ [x] <+: xs → YieldAt Fence.wide (n - 1) Tryz.prog l #[tkArg x] W fun e W' => e = .returned (.bool true) ∧ J (pre ++ [x]) W' ∧ Kp n0 W W')
    (W : World) (hS : Src W b s 0 q0) (hE : Syms W) (hb0 : b ≠ 1) (hn0 : 1 < n0) (hs : s.size ≤ 30000) (hx : lexF (s.size + 1) 0 s.data.toList = (xs, fin)) (h0 : J [] W) :
    CallsIn Fence.wide n Tryz.prog 117 #[.pointer (some ⟨b, 0, none⟩), .func (.yield l) #[] #[]] W fun e W' => (∃ v, e = .returned v) ∧ J xs W' ∧ Src W' b s (posOf b W') (fin : Int) := by
  refine callsIn_of_wp Tryz.func117 rfl trivial ?_ rfl
  simp only [Tryz.ntmps117, List.size_toArray, List.length_cons, List.length_nil, Nat.reduceAdd, Nat.reduceSub, Array.replicate_succ, Array.replicate_zero, List.push_toArray, List.append_toArray, List.nil_append, List.cons_append]
  have HS := Lib.hid hS
  have HE := Lib.hid hE
  have HX := Lib.hid hx
  have HY := Lib.hid hY
  have HJ := Lib.hid hJ
  have HJ0 := Lib.hid h0
  clear hS hE hx hY hJ h0
  refine wpIn_wide.2 (wp_scope_straight ((wpIn_wide (n := n)).1 ?_))
  gi_wp2
  gi_region
  gi_wp2
  refine wpIn_label ?_
  have HS0 : Hid (Src ((W.alloc (.cells #[.func (.func 144) #[.pointer (some ⟨b, 0, none⟩)] #[], .func (.func 145) #[.pointer (some ⟨b, 0, none⟩)] #[]] 88)).drew) b s 0 q0) := HS.out.kept (grown_trans (World.grownBy_alloc W _ none) (grown_drew _ none)) (by simp)
  have HW0 : Hid (Ways ((W.alloc (.cells #[.func (.func 144) #[.pointer (some ⟨b, 0, none⟩)] #[], .func (.func 145) #[.pointer (some ⟨b, 0, none⟩)] #[]] 88)).drew) W.heap.size b) := heap_alloc_new W _
  have HE0 : Hid (Syms ((W.alloc (.cells #[.func (.func 144) #[.pointer (some ⟨b, 0, none⟩)] #[], .func (.func 145) #[.pointer (some ⟨b, 0, none⟩)] #[]] 88)).drew)) := HE.out.grown (grown_trans (World.grownBy_alloc W _ none) (grown_drew _ none)) (by simp)
  have HJ1 : Hid (J [] ((W.alloc (.cells #[.func (.func 144) #[.pointer (some ⟨b, 0, none⟩)] #[], .func (.func 145) #[.pointer (some ⟨b, 0, none⟩)] #[]] 88)).drew)) := HJ.out [] W _ HJ0.out (grown_trans (World.grownBy_alloc W _ (some b)) (grown_drew _ _))
  clear HS HE HJ0
  obtain ⟨g, hg⟩ : ∃ g, g = W.heap.size := ⟨_, rfl⟩
  gi_wp2
  gi_loopw [] (fun wr => ∃ (pre rest : List Tk) (p f : Nat) (q : Int), Hid (xs = pre ++ rest) ∧ Hid (Src wr b s p q) ∧ p ≤ s.size ∧ s.size + 1 ≤ f + p ∧ Hid (lexF f p (s.data.toList.drop p) = (rest, fin)) ∧ Hid (Ways wr W.heap.size b) ∧ Hid (Syms wr) ∧ Hid (J pre wr)) (fun wr => s.size - posOf b wr)
  case atStart => exact ⟨[], xs, 0, s.size + 1, q0, rfl, HS0, by omega, by omega, HX, HW0, HE0, HJ1⟩
  case round =>
    clear HS0 HW0 HE0 HJ1 HX
    obtain ⟨pre, rest, p, f, q, HX, HS, hp, hf, HL, HW, HE, HJp⟩ := hrel
    obtain ⟨f, rfl⟩ : ∃ f', f = f' + 1 := ⟨f - 1, by omega⟩
    have h1n : 1 ≤ n := by omega
    obtain ⟨o, ho⟩ : ∃ o, o = p + spLen false (s.data.toList.drop p) := ⟨_, rfl⟩
    have hos : o ≤ s.size := by
      have := spLen_le false (s.data.toList.drop p)
      rw [List.length_drop, len_data] at this; omega
    have hpl : o + (partOf (s.data.toList.drop o)).length ≤ s.size := by
      have := partOf_le (s.data.toList.drop o)
      rw [List.length_drop, len_data] at this; omega
    have hpo : p ≤ o := by omega
    have HSP : Hid (Calls Tryz.prog 143 #[.pointer (some ⟨b, 0, none⟩)] wr fun e w' => (∃ v, e = .returned (.string v)) ∧ Moved wr w' b s (o : Int) q) := (space_any b s p q wr HS.out hs hp).mono fun e w' h => ⟨⟨_, h.1⟩, by rw [ho]; exact h.2⟩
    have HFO : Hid (∀ w, Src w b s o o → Syms w → Ways w W.heap.size b → Calls Tryz.prog 147 #[.slice (some ⟨W.heap.size, 0, none⟩) 2 2] w fun e w' => e = .returned (.string (strB (partOf (s.data.toList.drop o)))) ∧ Moved w w' b s ((o + (partOf (s.data.toList.drop o)).length : Nat) : Int) o) := fun w h1 h2 h3 => firstOf_any _ b s o o w h1 h2 hb0 h3 hs hos
    have HLS := Lib.hid (fun (h : tokS (partOf (s.data.toList.drop o)) = none) => (HL.out.symm.trans (lexF_none ho h) : (rest, fin) = ([], o)))
    have HLT := Lib.hid (fun (k n : Int) (t : List UInt8) (h : tokS (partOf (s.data.toList.drop o)) = some (k, t, n)) => (HL.out.symm.trans (lexF_some ho h)))
    have HPP := Lib.hid (fun (x : Int × List UInt8 × Int) (h : tokS (partOf (s.data.toList.drop o)) = some x) => part_pos h)
    clear HL
    have HO := Lib.hid ho
    clear ho
    obtain ⟨part, hpart⟩ : ∃ part, part = partOf (s.data.toList.drop o) := ⟨_, rfl⟩
    rw [← hpart] at hpl HFO HLS HLT HPP
    clear hpart
    have hps : (strB part).size ≤ maxLen := by rw [← len_data, data_strB]; unfold maxLen; omega
    have hM0 := posOf_src HS.out
    have HM0 := Lib.hid hM0
    clear hM0
    cases htk : tokS part with
    | none =>
      have HT : Hid (∀ w, Syms w → Calls Tryz.prog 146 #[.string (strB part)] w fun e w' => e = .returned (.tuple #[.agg #[.int .i64 0, .string ⟨#[]⟩, .int .i64 0, .int .i64 0], .bool false]) ∧ Below w.heap.size w w') := fun w h => (tokenOf_any _ w hps h).mono fun e w' h => ⟨by rw [h.1, data_strB, htk]; rfl, h.2⟩
      have hend := HLS.out htk
      clear HLS HLT HPP hps htk
      gi_wp2_with (first
        | (refine ⟨trivial, ?_⟩; gi_at_call 143; refine (callsIn_wide.2 HSP.out).mono ?_; rintro e w2 ⟨⟨v, rfl⟩, HM2⟩; have HS2 := Lib.hid HM2.1; have HG2 := Lib.hid HM2.2; clear HM2; have c1 := HS2.out.c1; have f2 := HS2.out.fr 2; have d2 := HS2.out.c2)
        | (refine ⟨trivial, ?_⟩; gi_at_call 147; refine (callsIn_wide.2 (HFO.out _ (HS2.out.set2 o) (HE.out.grown (grown_trans HG2.out (grown_set _ ⟨b, 2, none⟩ _)) (by simp; omega)) (HW.out.kept (grown_trans HG2.out (grown_set _ ⟨b, 2, none⟩ _)) (by simp [HW.out.ne HS.out])))).mono ?_; rintro e w3 ⟨rfl, HM3⟩; have HS3 := Lib.hid HM3.1; have HG3 := Lib.hid (grown_trans (grown_trans HG2.out (grown_set _ ⟨b, 2, none⟩ (.int .i64 (o : Int)))) HM3.2); clear HM3)
        | (refine ⟨trivial, ?_⟩; gi_at_call 146; refine (callsIn_wide.2 (HT.out _ (HE.out.grown HG3.out (by simp; omega)))).mono ?_; rintro e w5 ⟨rfl, hb5⟩; have HG5 := Lib.hid (grown_trans HG3.out (grown_below hb5 _)); have HS5 := Lib.hid (HS3.out.below hb5 HS3.out.lt); clear hb5; have g2 := HS5.out.c2; have hl5 := HS5.out.lt))
      refine noGoto_n ?_
      go_end0
      obtain ⟨hr, hfn⟩ := Prod.mk.inj hend
      refine ⟨⟨_, rfl⟩, ?_, ?_⟩
      · rw [HX.out, hr, List.append_nil]
        exact HJ.out pre _ _ HJp.out (grown_trans HG5.out (World.grownBy_alloc w5 _ (some b)))
      · rw [hfn]
        exact fin_src (HS5.out.kept (World.grownBy_alloc w5 _ none) (by simp))
    | some x =>
      obtain ⟨k, t, m⟩ := x
      have HT : Hid (∀ w, Syms w → Calls Tryz.prog 146 #[.string (strB part)] w fun e w' => e = .returned (.tuple #[.agg #[.int .i64 k, .string (strB t), .int .i64 m, .int .i64 0], .bool true]) ∧ Below w.heap.size w w') := fun w h => (tokenOf_any _ w hps h).mono fun e w' h => ⟨by rw [h.1, data_strB, htk]; rfl, h.2⟩
      have hend := HLT.out k m t htk
      have hpos := HPP.out _ htk
      obtain ⟨hr, hfn⟩ := Prod.mk.inj hend
      obtain ⟨rest', hrest⟩ : ∃ r, r = (lexF f (o + part.length) (s.data.toList.drop (o + part.length))).1 := ⟨_, rfl⟩
      rw [← hrest] at hr
      have HL2 : Hid (lexF f (o + part.length) (s.data.toList.drop (o + part.length)) = (rest', fin)) := by
        show _ = _; rw [hrest, hfn]
      have HX2 : Hid (xs = (pre ++ [⟨k, t, m, o⟩]) ++ rest') := by show _ = _; rw [HX.out, hr, List.append_assoc]; rfl
      have HPre : Hid (pre ++ [⟨k, t, m, o⟩] <+: xs) := ⟨rest', HX2.out.symm⟩
      clear HLS HLT HPP hps htk hend hr hfn hrest HX
      gi_wp2_with (first
        | (refine ⟨trivial, ?_⟩; gi_at_call 143; refine (callsIn_wide.2 HSP.out).mono ?_; rintro e w2 ⟨⟨v, rfl⟩, HM2⟩; have HS2 := Lib.hid HM2.1; have HG2 := Lib.hid HM2.2; clear HM2; have c1 := HS2.out.c1; have f2 := HS2.out.fr 2; have d2 := HS2.out.c2)
        | (refine ⟨trivial, ?_⟩; gi_at_call 147; refine (callsIn_wide.2 (HFO.out _ (HS2.out.set2 o) (HE.out.grown (grown_trans HG2.out (grown_set _ ⟨b, 2, none⟩ _)) (by simp; omega)) (HW.out.kept (grown_trans HG2.out (grown_set _ ⟨b, 2, none⟩ _)) (by simp [HW.out.ne HS.out])))).mono ?_; rintro e w3 ⟨rfl, HM3⟩; have HS3 := Lib.hid HM3.1; have HG3 := Lib.hid (grown_trans (grown_trans HG2.out (grown_set _ ⟨b, 2, none⟩ (.int .i64 (o : Int)))) HM3.2); clear HM3)
        | (refine ⟨trivial, ?_⟩; gi_at_call 146; refine (callsIn_wide.2 (HT.out _ (HE.out.grown HG3.out (by simp; omega)))).mono ?_; rintro e w5 ⟨rfl, hb5⟩; have HG5 := Lib.hid (grown_trans HG3.out (grown_below hb5 _)); have HS5 := Lib.hid (HS3.out.below hb5 HS3.out.lt); clear hb5; have g2 := HS5.out.c2; have hl5 := HS5.out.lt; have HJ5 : Hid (J pre (w5.alloc (Obj.cells #[.int .i64 k, .string (strB t), .int .i64 m, .int .i64 (o : Int)] 146))) := HJ.out pre _ _ HJp.out (grown_trans HG5.out (World.grownBy_alloc w5 _ (some b))); obtain ⟨fn, tmps, assign, body, hy0, hR⟩ := HY.out pre ⟨k, t, m, o⟩ _ HJ5.out HPre.out; have hy : (Instr.yield l #[.agg #[.int .i64 k, .string (strB t), .int .i64 m, .int .i64 (o : Int)]]).run Tryz.prog (w5.alloc (Obj.cells #[.int .i64 k, .string (strB t), .int .i64 m, .int .i64 (o : Int)] 146)) = _ := hy0; clear hy0; have HR := Lib.hid hR; clear hR))
      refine HR.out.mono ?_
      rintro e W3 ⟨rfl, hJ3, hK3⟩
      have HJ3 := Lib.hid hJ3
      have HSa : Hid (Src (w5.alloc (Obj.cells #[.int .i64 k, .string (strB t), .int .i64 m, .int .i64 (o : Int)] 146)) b s ((o + part.length : Nat) : Int) o) := HS5.out.kept (World.grownBy_alloc w5 _ none) (by simp)
      have HWa : Hid (Ways (w5.alloc (Obj.cells #[.int .i64 k, .string (strB t), .int .i64 m, .int .i64 (o : Int)] 146)) W.heap.size b) := HW.out.kept (grown_trans HG5.out (World.grownBy_alloc w5 _ (some b))) (by simp [HW.out.ne HS.out])
      have HEa : Hid (Syms (w5.alloc (Obj.cells #[.int .i64 k, .string (strB t), .int .i64 m, .int .i64 (o : Int)] 146))) := HE.out.grown (grown_trans HG5.out (World.grownBy_alloc w5 _ (some b))) (by simp; omega)
      have HS3b : Hid (Src W3 b s ((o + part.length : Nat) : Int) o) := (hK3.2 b _ 199 (0, 0) HSa.out (by decide) (by decide)).trans HSa.out
      have HW3b : Hid (Ways W3 W.heap.size b) := (hK3.2 _ _ 88 (0, 0) HWa.out (by decide) (by decide)).trans HWa.out
      have HE3b : Hid (Syms W3) := HEa.out.below hK3.1 hn0
      clear hJ3 hK3 HSa HWa HEa
      gi_wp2
      go_roundw
      case rel => exact ⟨pre ++ [⟨k, t, m, o⟩], rest', o + part.length, f, o, HX2, HS3b, hpl, by omega, HL2, HW3b, HE3b, HJ3⟩
      case measure =>
        have e1 := posOf_src HS3b.out
        have e2 := HM0.out
        rw [Int.toNat_natCast] at e1 e2
        rw [e1, e2]
        omega
end Go.Proofs.YtbmicnajedeenaaGreatDoor
/- The statement that ranges over the tokens of a source. -/
namespace Go.Proofs.YtbmicnajedeenaaGreatDoor
open Go.RowKit Go.Shelf

def tkCells (x : Tk) : List Value := [.int .i64 x.kind, .string (strB x.s), .int .i64 x.n, .int .i64 (x.pos : Int)]
def flat (l : List Tk) : List Value := l.flatMap tkCells
theorem flat_snoc (l : List Tk) (x : Tk) : flat (l ++ [x]) = flat l ++ tkCells x := by simp [flat]

theorem Kp.refl (n0 : Nat) (W : World) : Kp n0 W W := ⟨Below.refl _ _, fun _ _ _ _ _ _ _ => rfl⟩
theorem Kp.trans {n0 : Nat} {A B C : World} (h : Kp n0 A B) (k : Kp n0 B C) : Kp n0 A C :=
  ⟨h.1.trans k.1, fun i cs t fr hi h1 h2 => by
    have e := h.2 i cs t fr hi h1 h2
    exact (k.2 i cs t fr (e.trans hi) h1 h2).trans e⟩
theorem Kp.alloc {n0 : Nat} (W : World) (o : Obj) (h : n0 ≤ W.heap.size) : Kp n0 W (W.alloc o) :=
  ⟨(Below.refl _ _).alloc h o, fun i _ _ _ hi _ _ => Below.heap_alloc W o i (Array.getElem?_eq_some_iff.1 hi).1⟩
theorem Kp.putObj {n0 : Nat} {W : World} {l : Nat} {o : Obj} (o' : Obj) (h : n0 ≤ l) (hl : W.heap[l]? = some o) (ho : o.isCells = false) : Kp n0 W (W.putObj l o') :=
  ⟨(Below.refl n0 W).grown (grownBy_putObj' W l o') (by have := (Array.getElem?_eq_some_iff.1 hl).1; omega) (fun k e => by cases e; exact h), fun i cs t fr hi _ _ =>
    World.putObj_heap_other (fun e => by rw [e, hl] at hi; cases hi; cases ho)⟩

/-- how the body of a round is left -/
def roundQ (n0 : Nat) (I : List Tk → World → Prop) (xs : List Tk) (W : World) : Exit → Act → World → Prop
  | .normal, _, W' => KeepsOthers W W' ∧ Kp n0 W W' ∧ I xs W'
  | _, _, _ => False

theorem lex_range {n : Nat} {a : Act} {w : World} {g : Operand} {p : Tmp} {assign body : Code} {Q : Exit → Act → World → Prop} (hn : 9 ≤ n) (b n0 : Nat) (s : ByteArray) (xs : List Tk) (fin : Nat) (q0 : Int)
    (hg : a.eval g = .func (.func 117) #[.pointer (some ⟨b, 0, none⟩)] #[])
    (hS : Src w b s 0 q0) (hE : Syms w) (hb0 : b ≠ 1) (hn0 : 1 < n0) (hnw : n0 ≤ w.heap.size) (hs : s.size ≤ 30000) (hx : lexF (s.size + 1) 0 s.data.toList = (xs, fin))
    (I : List Tk → World → Prop) (hI : ∀ pre W W', I pre W → W.grownBy W' (some b) → I pre W')
    (hIp : ∀ pre W l o o', I pre W → W.heap[l]? = some o → o.isCells = false → w.heap.size ≤ l → I pre (W.putObj l o')) (h0 : I [] w) (a₁ : Tk → Nat → Act)
    (hassign : ∀ (l : Nat) (x : Tk) (W : World) (K : Act → World → Prop), K (a₁ x W.heap.size) (W.alloc (Obj.cells (tkCells x).toArray 146)) →
      assign.wpIn (Fence.wide.inRound l) (n - 1 - 1) Tryz.prog (Exit.then K (fun _ _ _ => False)) { tmps := (#[p].zip #[tkArg x]).foldl (fun t (p, v) => t.setIfInBounds p v) a.tmps, defers := [] } W)
    (hbody : ∀ (l : Nat) (pre : List Tk) (x : Tk) (W : World) (c : Nat), I pre W → W.heap[c]? = some (Obj.cells (tkCells x).toArray 146 (0, 0)) → n0 ≤ W.heap.size → pre ++ [x] <+: xs →
      body.wpIn (Fence.wide.inRound l) (n - 1 - 1) Tryz.prog (roundQ n0 I (pre ++ [x]) W) (a₁ x c) W)
    (hdone : ∀ (D : Nat) (W : World), w.heap.size ≤ D → I xs W → Src W b s (posOf b W) (fin : Int) → W.heap[D]? = some (.deferred (some [])) → Q .normal { a with defers := { target := .collected D, args := #[] } :: a.defers } W) :
    (Code.rangeFunc g #[p] assign body).wpIn Fence.wide n Tryz.prog Q a w := by
  refine wpIn_rangeFunc ?_
  intro fn hfn
  rw [show Fence.wide.round = none from rfl]
  obtain ⟨rec, hrec⟩ : ∃ rec : LoopState → Option Code → Loop, rec = fun st pe => { state := st, pending := pe, fn, tmps := a.tmps, params := #[p], assign, body, defers := w.heap.size } := ⟨_, rfl⟩
  obtain ⟨W1, hW1⟩ : ∃ W1, (w.alloc (.deferred (some []))).alloc (.loop (rec .ready none)) = W1 := ⟨_, rfl⟩
  have hL1 : W1.heap[w.heap.size + 1]? = some (.loop (rec .ready none)) := by
    rw [← hW1]; have := World.alloc_heap_new (w.alloc (.deferred (some []))) (.loop (rec .ready none)); rwa [World.size_alloc] at this
  have hK1 : W1.heap[w.heap.size]? = some (.deferred (some [])) := by
    rw [← hW1]; exact (Below.heap_alloc _ _ _ (by simp)).trans (World.alloc_heap_new w _)
  have hg1 : ∀ row, w.grownBy W1 row := fun row => by rw [← hW1]; exact grown_trans (World.grownBy_alloc _ _ _) (World.grownBy_alloc _ _ _)
  have hbl := hS.lt
  refine ⟨w.heap.size + 1, [{ target := .collected w.heap.size, args := #[] }], W1, { target := .fn (.func 117) #[], args := #[.pointer (some ⟨b, 0, none⟩), .func (.yield (w.heap.size + 1)) #[] #[]] }, W1, 117,
    #[.pointer (some ⟨b, 0, none⟩), .func (.yield (w.heap.size + 1)) #[] #[]], W1, ?_, ?_, ?_, ?_, fun _ => by omega, ?_⟩
  · rw [← hW1, hrec]; exact run_enterLoop_outer _ _ _ _ _
  · simp only [resolve, hg]
    simp [go_sem]
  · intro f' hf'; trivial
  · have eg : ∀ args w, (callFunc 117 args).run Tryz.prog w = .ok (.enter 117 args) w := enters_of Tryz.func117 (by kernel_rfl) rfl
    simp [invoke, go_sem, eg]
  · refine (tokens_in (n - 1) (w.heap.size + 1) b n0 s xs fin q0
      (fun pre W => I pre W ∧ W.heap[w.heap.size + 1]? = some (.loop (rec .ready none)) ∧ W.heap[w.heap.size]? = some (.deferred (some [])) ∧ n0 ≤ W.heap.size) ?_ (by omega) ?_ W1 (hS.kept (hg1 none) (by simp)) (hE.grown (hg1 none) (by simp)) hb0 hn0 hs hx
      ⟨hI _ _ _ h0 (hg1 _), hL1, hK1, Nat.le_trans hnw (hg1 none).size⟩).mono ?_
    · rintro pre A B ⟨hi, hl, hk, hz⟩ hgr
      have l1 := (Array.getElem?_eq_some_iff.1 hl).1
      exact ⟨hI _ _ _ hi hgr, (hgr.block _ l1 (by simp; omega)).trans hl, (hgr.block _ (by omega) (by simp; omega)).trans hk, Nat.le_trans hz hgr.size⟩
    · -- one round
      rintro pre x W ⟨hi, hl, hk, hz⟩ hpre
      have hlt : w.heap.size + 1 < W.heap.size := (Array.getElem?_eq_some_iff.1 hl).1
      have hy := run_yield (P := Tryz.prog) (args := #[tkArg x]) hl (by rw [hrec]; rfl)
      rw [hrec] at hy
      refine ⟨fn, _, assign, body, hy, roundIn_of_wpIn hfn ?_⟩
      obtain ⟨WA, hWA⟩ : ∃ WA, W.alloc (Obj.cells (tkCells x).toArray 146) = WA := ⟨_, rfl⟩
      have hgA : ∀ row, W.grownBy WA row := fun row => by rw [← hWA]; exact World.grownBy_alloc _ _ _
      have hlA : WA.heap[w.heap.size + 1]? = some (.loop (rec .ready none)) := ((hgA none).block _ hlt (by simp)).trans hl
      have hkA : WA.heap[w.heap.size]? = some (.deferred (some [])) := ((hgA none).block _ (by omega) (by simp)).trans hk
      have hcA : WA.heap[W.heap.size]? = some (Obj.cells (tkCells x).toArray 146 (0, 0)) := by rw [← hWA]; exact World.alloc_heap_new W _
      have hltA : w.heap.size + 1 < WA.heap.size := (Array.getElem?_eq_some_iff.1 hlA).1
      have hzA : n0 ≤ WA.heap.size := Nat.le_trans hz (hgA none).size
      refine hassign _ x W _ ?_
      rw [hWA]
      refine ⟨_, run_beginRound hlA (by rw [hrec]), ?_⟩
      have hl2 : (WA.putObj (w.heap.size + 1) (.loop { rec .ready none with state := .busy })).heap[w.heap.size + 1]? = some (.loop { rec .ready none with state := .busy }) := World.putObj_heap_same hltA
      have hk2 : (WA.putObj (w.heap.size + 1) (.loop { rec .ready none with state := .busy })).heap[w.heap.size]? = some (.deferred (some [])) := (World.putObj_heap_other (by omega)).trans hkA
      have hc2 : (WA.putObj (w.heap.size + 1) (.loop { rec .ready none with state := .busy })).heap[W.heap.size]? = some (Obj.cells (tkCells x).toArray 146 (0, 0)) := (World.putObj_heap_other (by omega)).trans hcA
      have hw2 : Kp n0 W (WA.putObj (w.heap.size + 1) (.loop { rec .ready none with state := .busy })) := Kp.trans (by rw [← hWA]; exact Kp.alloc W _ hz) (Kp.putObj _ (by omega) hlA rfl)
      have hi2 := hIp pre _ _ _ (.loop { rec .ready none with state := .busy }) (hI _ _ _ hi (hgA _)) hlA rfl (by omega)
      refine wpIn_mono (hbody _ pre x _ _ hi2 hc2 (by rw [World.putObj_size]; exact hzA) hpre) ?_
      rintro e a3 W3 hp
      cases e with
      | normal =>
        obtain ⟨hk3, hkp3, hi3⟩ := hp
        have hl3 := hk3.same _ _ hl2 rfl
        have hd3 := hk3.same _ _ hk2 rfl
        have hend := run_endRound (P := Tryz.prog) none hl3
        have hl4 : (W3.putObj (w.heap.size + 1) (.loop (rec .ready none))).heap[w.heap.size + 1]? = some (.loop (rec .ready none)) := World.putObj_heap_same (Array.getElem?_eq_some_iff.1 hl3).1
        have hd4 : (W3.putObj (w.heap.size + 1) (.loop (rec .ready none))).heap[w.heap.size]? = some (.deferred (some [])) := (World.putObj_heap_other (by omega)).trans hd3
        rw [hrec] at hend hl4 hd4 hl3
        refine ⟨_, _, hend, rfl, ⟨hIp _ _ _ _ _ hi3 hl3 rfl (by omega), ?_, ?_, ?_⟩, ?_⟩
        · rw [hrec]; exact hl4
        · exact hd4
        · rw [World.putObj_size]; exact Nat.le_trans (by rw [World.putObj_size]; exact hzA) hkp3.1.size
        · exact Kp.trans (Kp.trans hw2 (by rw [hrec]; rw [hrec] at hkp3; exact hkp3)) (Kp.putObj _ (by omega) hl3 rfl)
      | ret => exact hp.elim
      | exit id => exact hp.elim
      | goto t => exact hp.elim
      | panic ch => exact hp.elim
      | outgrown => exact hp.elim
    · rintro e W2 ⟨⟨v, rfl⟩, ⟨hi, hl, hk, hz⟩, hs2⟩
      have hend := run_endLoop (P := Tryz.prog) hl (by rw [hrec]; simp)
      have hb2 := hs2.lt
      have hne : b ≠ w.heap.size + 1 := by omega
      have hsrc : ∀ o', Src (W2.putObj (w.heap.size + 1) o') b s (posOf b W2) fin := fun o' => (World.putObj_heap_other hne).trans hs2
      rw [hrec] at hend
      refine ⟨none, _, hend, hdone _ _ (Nat.le_refl _) (hIp _ _ _ _ _ hi hl rfl (by omega)) ?_ ((World.putObj_heap_other (by omega)).trans hk)⟩
      have h1 := hsrc (.loop { rec .ready none with state := .exhausted })
      rw [hrec] at h1
      have h2 := posOf_src h1
      rw [Int.toNat_natCast] at h2
      rw [h2]
      exact h1
end Go.Proofs.YtbmicnajedeenaaGreatDoor
/- Lex: the tokens of a text. -/
namespace Go.Proofs.YtbmicnajedeenaaGreatDoor
open Go.RowKit Go.Shelf

attribute [local go_sem] Oper.semAt_some

theorem info43 : (Tryz.prog.info? 146).map (fun i => (i.zero, i.size, i.bytes)) = some (some (.agg #[.int .i64 0, .string ⟨#[]⟩, .int .i64 0, .int .i64 0]), 4, 40) := by kernel_rfl

/-- what a call of Lex leaves: the tokens in new memory, an index, an error -/
def LexPost (w : World) (base : Nat) (r : List Tk × Int × Int) (e : Ending) (w' : World) : Prop :=
  ∃ v, e = .returned (.tuple #[v, .int .i64 r.2.1, .int .i64 r.2.2]) ∧ w'.ownsRow base 146 4 v r.1.length (flat r.1) ∧ Below w.heap.size w w'

/-- what is known between two rounds -/
def LexInv (w : World) (pre : List Tk) (W : World) : Prop := ∃ v, Boxed W w.heap.size 141 v ∧ W.ownsRow (w.heap.size + 2) 146 4 v pre.length (flat pre) ∧ Below w.heap.size w W ∧ w.heap.size + 2 ≤ W.heap.size

theorem LexPost.mk' {w w' : World} {base : Nat} {r : List Tk × Int × Int} {xs : List Tk} {a b : Int} {v : Value} (h : r = (xs, a, b)) (ho : w'.ownsRow base 146 4 v xs.length (flat xs)) (hb : Below w.heap.size w w') :
    LexPost w base r (.returned (.tuple #[v, .int .i64 a, .int .i64 b])) w' := by subst h; exact ⟨v, rfl, ho, hb⟩
theorem owns_weaken {w : World} {b b' : Nat} {e : TypeId} {size : Nat} {v : Value} {n : Nat} {xs : List Value} (h : w.ownsRow b e size v n xs) (hb : b' ≤ b) : w.ownsRow b' e size v n xs := by
  refine ⟨h.1, ?_⟩
  rcases h.2 with h2 | ⟨g, cap, cur, h1, h2, h3⟩
  · exact .inl h2
  · exact .inr ⟨g, cap, cur, h1, by omega, h3⟩
theorem lexF_len : ∀ (f off : Nat) (l : List UInt8), (lexF f off l).1.length ≤ f
  | 0, _, _ => by simp [lexF]
  | f + 1, off, l => by
    unfold lexF
    split
    · simp
    · have := lexF_len f
      simp only [List.length_cons]
      have := this (off + spLen false l + (partOf (l.drop (spLen false l))).length) (l.drop (spLen false l + (partOf (l.drop (spLen false l))).length))
      omega
theorem cell_toks (w : World) (x : Tk) (t : TypeId) : ∀ j u, (tkCells x)[j]? = some u → (w.alloc (.cells (tkCells x).toArray t)).cell? ((⟨w.heap.size, 0, none⟩ : Addr).add j) = some u := by
  intro j u hj
  match j, hj with
  | 0, hj => simp [tkCells] at hj; subst hj; simp [Addr.add, tkCells]
  | 1, hj => simp [tkCells] at hj; subst hj; simp [Addr.add, tkCells]
  | 2, hj => simp [tkCells] at hj; subst hj; simp [Addr.add, tkCells]
  | 3, hj => simp [tkCells] at hj; subst hj; simp [Addr.add, tkCells]
  | j + 4, hj => simp [tkCells] at hj
theorem tk_one (x : Tk) : ∀ u ∈ tkCells x, u.oneCell' = true := by
  intro u hu
  simp only [tkCells, List.mem_cons, List.not_mem_nil, or_false] at hu
  rcases hu with rfl | rfl | rfl | rfl <;> rfl

theorem res14 {tmps : Array Value} {w : World} {g : Nat} {v : Value} {a b : Int} (h2 : tmps.getD 2 undef = .pointer (some ⟨g, 0, none⟩)) (h3 : tmps.getD 3 undef = .int .i64 a) (h4 : tmps.getD 4 undef = .int .i64 b) (h : Boxed w g 141 v) :
    (results Tryz.f79 tmps).run Tryz.prog w = .ok (.tuple #[v, .int .i64 a, .int .i64 b]) w := by
  have c0 := h.cell
  have h2' : tmps[2]?.getD undef = .pointer (some ⟨g, 0, none⟩) := by simpa using h2
  have h3' : tmps[3]?.getD undef = .int .i64 a := by simpa using h3
  have h4' : tmps[4]?.getD undef = .int .i64 b := by simpa using h4
  simp [results, Tryz.results79, go_sem, h2', h3', h4', c0]

theorem round_end {w A w1 : World} {v v' : Value} {pre : List Tk} {x : Tk} {tmp : Obj} {a : Act} (hv : Boxed A w.heap.size 141 v) (hrow : A.ownsRow (w.heap.size + 2) 146 4 v pre.length (flat pre)) (hB : Below w.heap.size w A) (hZ : w.heap.size + 2 ≤ A.heap.size)
    (hv1 : Boxed w1 w.heap.size 141 v) (hown' : w1.ownsRow (w.heap.size + 2) 146 4 v' (pre.length + 1) (flat pre ++ tkCells x)) (hgrow : (A.alloc tmp).grownBy w1 v.ownBlock) :
    roundQ w.heap.size (LexInv w) (pre ++ [x]) A .normal a (w1.setCell ⟨w.heap.size, 0, none⟩ v') := by
  have hrowA := hrow.alloc tmp
  have hown : ∀ j, v.ownBlock = some j → w.heap.size + 2 ≤ j ∧ ∃ cs fr, (A.alloc tmp).heap[j]? = some (Obj.cells cs 146 fr) := by
    intro j ej
    rcases hrowA.2 with ⟨rfl, _⟩ | ⟨g, cap, cur, rfl, hb, hgb, _⟩
    · simp [Value.ownBlock] at ej
    · obtain rfl : g = j := by simpa [Value.ownBlock] using ej
      exact ⟨hb, _, _, hgb⟩
  have hBel : Below w.heap.size A (w1.setCell ⟨w.heap.size, 0, none⟩ v') := by
    refine bset ((((Below.refl w.heap.size A).alloc (by omega) tmp).grown hgrow (by simp; omega) fun j ej => ?_)) (Nat.le_refl _) v'
    have := (hown j ej).1; omega
  refine ⟨?_, ⟨hBel, ?_⟩, v', hv1.set v', ?_, hB.trans hBel, ?_⟩
  · refine ((KeepsOthers.alloc A tmp).trans (KeepsOthers.of_grownBy hgrow fun j o ej hj => ?_)).trans (KeepsOthers.setCell _ _ _)
    obtain ⟨_, cs, fr, hgb⟩ := hown j ej
    rw [hgb] at hj; cases hj; rfl
  · intro k cs t fr hk h1 h2
    have hlt := (Array.getElem?_eq_some_iff.1 hk).1
    have e1 : k ≠ w.heap.size := by
      rintro rfl
      unfold Boxed at hv
      rw [hv] at hk
      injection hk with hk; injection hk with _ ht
      exact h1 ht.symm
    have e2 : some k ≠ v.ownBlock := by
      intro e
      obtain ⟨_, cs', fr', hgb⟩ := hown k e.symm
      rw [Below.heap_alloc A tmp k hlt, hk] at hgb
      injection hgb with hgb; injection hgb with _ ht
      exact h2 ht
    rw [Below.heap_setCell _ _ _ _ e1, hgrow.block k (by simp; omega) e2, Below.heap_alloc A tmp k hlt]
  · rw [List.length_append, flat_snoc]
    exact hown'.kept (grownBy_setCell' w1 _ v') (.inr (hv1.not_row (by decide) hown').symm)
  · exact Nat.le_trans hZ hBel.size

set_option maxRecDepth 100000 in
set_option maxHeartbeats 1000000 in
theorem Lex_any (s : ByteArray) (w : World) (hY : Syms w) (hsz : s.size ≤ maxLen) :
    Calls Tryz.prog 79 #[.string s] w (LexPost w w.heap.size (lexS s.data.toList)) := by
  unfold maxLen at hsz
  by_cases hlong : 30000 < s.size
  · have HR := Lib.hid (show lexS s.data.toList = ([], 0, 3) by unfold lexS; rw [len_data, if_pos hlong])
    refine callsIn_wide (n := 20) |>.1 ?_
    refine callsIn_of_wp_marks Tryz.func79 rfl trivial ?_ rfl
    simp only [Tryz.ntmps79, List.size_toArray, List.length_cons, List.length_nil, Nat.reduceAdd, Nat.reduceSub, Array.replicate_succ, Array.replicate_zero, List.push_toArray, List.append_toArray, List.nil_append, List.cons_append]
    gi_wp2
    exact ⟨_, res14 rfl rfl rfl (Boxed.new w 141 (.slice none 0 0)), LexPost.mk' HR.out (World.ownsRow_nil _ _ _ _) ((Below.refl _ _).alloc (Nat.le_refl _) _)⟩
  · obtain ⟨xs, fin, hx⟩ : ∃ xs fin, lexF (s.size + 1) 0 s.data.toList = (xs, fin) := ⟨_, _, rfl⟩
    refine callsIn_wide (n := 20) |>.1 ?_
    refine callsIn_of_wp_marks Tryz.func79 rfl trivial ?_ rfl
    simp only [Tryz.ntmps79, List.size_toArray, List.length_cons, List.length_nil, Nat.reduceAdd, Nat.reduceSub, Array.replicate_succ, Array.replicate_zero, List.push_toArray, List.append_toArray, List.nil_append, List.cons_append]
    have HY := Lib.hid hY
    have HX := Lib.hid hx
    clear hY hx
    gi_wp2
    obtain ⟨i0, hi, hz0, hz1, hz2⟩ := info_parts info43
    have hB2 : Below w.heap.size w ((w.alloc (.cells #[.slice none 0 0] 141)).alloc (.cells #[.string s, .int .i64 0, .int .i64 0] 199)) := ((Below.refl _ w).alloc (Nat.le_refl _) _).alloc (by simp) _
    have hS : Src ((w.alloc (.cells #[.slice none 0 0] 141)).alloc (.cells #[.string s, .int .i64 0, .int .i64 0] 199)) (w.heap.size + 1) s 0 0 := by
      have := heap_alloc_new (w.alloc (.cells #[.slice none 0 0] 141)) (.cells #[.string s, .int .i64 0, .int .i64 0] 199)
      rwa [World.size_alloc] at this
    have hlen : xs.length ≤ 30001 := by
      have := lexF_len (s.size + 1) 0 s.data.toList
      rw [HX.out] at this
      have h2 : xs.length ≤ s.size + 1 := this
      omega
    refine lex_range (n := 20) (by omega) (w.heap.size + 1) w.heap.size s xs fin 0 rfl hS (HY.out.below hB2 HY.out.pos) (by have := HY.out.pos; omega) HY.out.pos (by simp; omega) (by omega) HX.out (LexInv w) ?hI ?hIp ?h0
      (fun x c => { tmps := #[.string s, undef, .pointer (some ⟨w.heap.size, 0, none⟩), .int .i64 0, .int .i64 0, .pointer (some ⟨w.heap.size + 1, 0, none⟩), .pointer (some ⟨c, 0, none⟩), .string s, .int .i64 (s.size : Int), .bool (decide (30000 < (s.size : Int))), .string s, .agg #[.string s, .int .i64 0], .agg #[.string s, .int .i64 0, .int .i64 0], .func (.func 117) #[.pointer (some ⟨w.heap.size + 1, 0, none⟩)] #[], tkArg x, undef, undef, undef, undef, undef, undef, undef, undef, undef, undef, undef, undef], defers := [] }) ?assign ?body ?done
    case hI =>
      rintro pre A B ⟨v, hv, hrow, hB, hZ⟩ hg
      refine ⟨v, hv.kept hg (by simp), hrow.kept hg ?_, hB.grown hg hB.size (fun k e => by cases e; omega), Nat.le_trans hZ hg.size⟩
      rcases hrow.2 with ⟨rfl, _⟩ | ⟨g, cap, cur, rfl, hb, _⟩
      · exact .inl rfl
      · refine .inr fun e => ?_
        have : g = w.heap.size + 1 := by simpa [Value.ownBlock] using e
        omega
    case hIp =>
      rintro pre A l o o' ⟨v, hv, hrow, hB, hZ⟩ hl ho hle
      refine ⟨v, hv.kept (grownBy_putObj' A l o') (by simp at hle ⊢; omega), ownsRow_putObj hrow _ hl ho, hB.grown (grownBy_putObj' A l o') hB.size (fun k e => by cases e; simp at hle; omega), by rw [World.putObj_size]; exact hZ⟩
    case h0 => exact ⟨_, (Boxed.new w 141 _).alloc _, World.ownsRow_nil _ _ _ _, hB2, by simp⟩
    case assign =>
      intro l x A K hK
      simp only [tkArg, tkCells] at hK ⊢
      gi_wp2
      exact hK
    case body =>
      rintro l pre x A c ⟨v, hv, hrow, hB, hZ⟩ hc _ hpre
      have c0 : A.cell? ⟨c, 0, none⟩ = some (.int .i64 x.kind) := cell_of_row A c 0 _ 146 (0, 0) hc
      have c1 : A.cell? ⟨c, 1, none⟩ = some (.string (strB x.s)) := cell_of_row A c 1 _ 146 (0, 0) hc
      have c2 : A.cell? ⟨c, 2, none⟩ = some (.int .i64 x.n) := cell_of_row A c 2 _ 146 (0, 0) hc
      have c3 : A.cell? ⟨c, 3, none⟩ = some (.int .i64 (x.pos : Int)) := cell_of_row A c 3 _ 146 (0, 0) hc
      have hb0 := hv.cell
      have hpl : pre.length + 1 ≤ 30001 := by
        have := hpre.length_le
        simp only [List.length_append, List.length_cons, List.length_nil] at this
        omega
      have HV := Lib.hid hv
      have HRow := Lib.hid hrow
      have HB := Lib.hid hB
      have HSZ := Lib.hid hZ
      clear hv hrow hB hZ hc hpre
      simp only [tkArg]
      gi_wp2_with (gi_at_builtin; refine wpListIn_append_own _ rfl _ _ 141 rfl (w.heap.size + 2) 146 i0 (.agg #[.int .i64 0, .string ⟨#[]⟩, .int .i64 0, .int .i64 0]) 4 40 Tryz.underlying141 hi hz0 hz1 hz2 rfl (by decide) _ _ _ rfl (HRow.out.alloc _) ⟨A.heap.size, 0, none⟩ 1 1 (tkCells x) rfl rfl (cell_toks A x 146) (tk_one x) (by unfold maxLen; omega) (by omega) (by have := HSZ.out; simp; omega) ?_; intro v' w1 hown' hgrow _; obtain ⟨g', cap', rfl⟩ := ownsRow_succ hown'; have HV1 := Lib.hid ((HV.out.alloc _).kept hgrow (HV.out.not_row (by decide) HRow.out)); have hb1 := HV1.out.cell; have hf1 := HV1.out.frozen; have HO := Lib.hid hown'; have HGr := Lib.hid hgrow; clear hown' hgrow)
      exact round_end HV.out HRow.out HB.out HSZ.out HV1.out HO.out HGr.out
    case done =>
      rintro D A hD ⟨v, hv, hrow, hB, hZ⟩ hsrc hK
      have hb0 := hv.cell
      have hf0 := hv.frozen
      have hc2 := hsrc.c2
      have hDN : D ≠ w.heap.size := by simp at hD; omega
      have HV := Lib.hid hv
      have HRow := Lib.hid hrow
      have HB := Lib.hid hB
      have HK := Lib.hid hK
      have HD : Hid (w.heap.size ≤ D) := by simp at hD; exact Nat.le_trans (by omega) hD
      have HDN := Lib.hid hDN
      clear hv hrow hB hK hsrc hDN hD
      have hput : ∀ (B : World) (o : Obj), Below w.heap.size w B → B.heap[D]? = some (Obj.deferred (some [])) → Below w.heap.size w (B.putObj D o) := fun B o hb hd =>
        hb.grown (grownBy_putObj' B D o) hb.size (fun k e => by cases e; exact HD.out)
      have HP := Lib.hid hput
      clear hput
      by_cases hfin : fin < s.size
      · have HR := Lib.hid (show lexS s.data.toList = ([], (fin : Int), 2) by unfold lexS; rw [len_data, if_neg hlong, HX.out, if_pos hfin])
        gi_wp2
        gi_region
        gi_wp2
        have hd2 : ((A.setCell ⟨w.heap.size, 0, none⟩ (.slice none 0 0)).drew).heap[D]? = some (Obj.deferred (some [])) := (Below.heap_setCell A ⟨w.heap.size, 0, none⟩ _ D HDN.out).trans HK.out
        refine ⟨by simp, .inl ⟨_, _, rfl, run_takeDeferred hd2, ?_⟩⟩
        have hbx : Boxed (((A.setCell ⟨w.heap.size, 0, none⟩ (.slice none 0 0)).drew).putObj D (.deferred none)) w.heap.size 141 (.slice none 0 0) := (World.putObj_heap_other (Ne.symm HDN.out)).trans (HV.out.set _)
        exact ⟨_, res14 rfl rfl rfl hbx, LexPost.mk' HR.out (World.ownsRow_nil _ _ _ _) (HP.out _ _ ((bset HB.out (Nat.le_refl _) (o := 0) (.slice none 0 0)).grown (grown_drew _ none) (by have := HB.out.size; simpa [World.setCell] using this) (fun k e => by cases e)) hd2)⟩
      · have HR := Lib.hid (show lexS s.data.toList = (xs, 0, 0) by unfold lexS; rw [len_data, if_neg hlong, HX.out, if_neg hfin])
        obtain ⟨a, n, c, rfl⟩ : ∃ a n c, v = .slice a n c := by
          rcases HRow.out.2 with ⟨rfl, _⟩ | ⟨g, cap, cur, rfl, _⟩
          · exact ⟨_, _, _, rfl⟩
          · exact ⟨_, _, _, rfl⟩
        gi_wp2
        have hd2 : (A.setCell ⟨w.heap.size, 0, none⟩ (.slice a n c)).heap[D]? = some (Obj.deferred (some [])) := (Below.heap_setCell A ⟨w.heap.size, 0, none⟩ _ D HDN.out).trans HK.out
        refine ⟨by simp, .inl ⟨_, _, rfl, run_takeDeferred hd2, ?_⟩⟩
        have hbx : Boxed ((A.setCell ⟨w.heap.size, 0, none⟩ (.slice a n c)).putObj D (.deferred none)) w.heap.size 141 (.slice a n c) := (World.putObj_heap_other (Ne.symm HDN.out)).trans (HV.out.set _)
        have hr2 := HRow.out.kept (grownBy_setCell' A w.heap.size (.slice a n c)) (.inr (HV.out.not_row (by decide) HRow.out).symm)
        exact ⟨_, res14 rfl rfl rfl hbx, LexPost.mk' HR.out (owns_weaken (ownsRow_putObj hr2 _ hd2 rfl) (by omega)) (HP.out _ _ (bset HB.out (Nat.le_refl _) _) hd2)⟩
end Go.Proofs.YtbmicnajedeenaaGreatDoor
/- The reference's Digits, Index, Has, Keywords, symbols. -/
namespace Go.Proofs.YtbmicnajedeenaaGreatDoor
open Go.RowKit

theorem itoa_small {n : Int} (h : 0 ≤ n ∧ n < 10) : Lib.itoa n = [UInt8.ofNat (48 + n.toNat)] := by
  unfold Lib.itoa
  rw [if_neg (by omega), Lib.decDigits_one (by omega)]
theorem itoa_big {n : Int} (h : 10 ≤ n) : Lib.itoa n = Lib.itoa (n / 10) ++ Lib.itoa (n % 10) := by
  have h1 : ¬ n.toNat < 10 := by omega
  rw [itoa_small (n := n % 10) (by omega)]
  unfold Lib.itoa
  rw [if_neg (by omega), if_neg (by omega)]
  conv => lhs; rw [Lib.decDigits, dif_neg h1]
  rw [show n.toNat / 10 = (n / 10).toNat from by omega, show n.toNat % 10 = (n % 10).toNat from by omega]
theorem cat_data (a b : ByteArray) : (a ++ b).data.toList = a.data.toList ++ b.data.toList := by
  rw [ByteArray.data_append, Array.toList_append]

/-- a list of strings lies in memory -/
def StrsAt (w : World) (A : Option Addr) (L : List (List UInt8)) : Prop :=
  ∃ b off, A = some ⟨b, off, none⟩ ∧ b < w.heap.size ∧ ∀ (j : Nat) (l : List UInt8), L[j]? = some l → w.cell? ⟨b, off + j, none⟩ = some (.string (strB l))
theorem StrsAt.below {w w' : World} {A : Option Addr} {L : List (List UInt8)} (h : StrsAt w A L) (hb : Below w.heap.size w w') : StrsAt w' A L := by
  obtain ⟨b, off, e, hlt, hc⟩ := h
  exact ⟨b, off, e, Nat.lt_of_lt_of_le hlt hb.size, fun j l hj => (hb.cell (p := ⟨b, _, none⟩) hlt).trans (hc j l hj)⟩
end Go.Proofs.YtbmicnajedeenaaGreatDoor
/- Plain laws: numerals, and the tokens of one word. -/
namespace Go.Proofs.YtbmicnajedeenaaGreatDoor
open Go.RowKit

theorem dig_ofNat {n : Int} (h : 0 ≤ n ∧ n < 10) : kb (UInt8.ofNat (48 + n.toNat)) = 3 ∧ ((UInt8.ofNat (48 + n.toNat)).toNat : Int) = 48 + n ∧ (n ≠ 0 → UInt8.ofNat (48 + n.toNat) ≠ 48) := by
  have : n = 0 ∨ n = 1 ∨ n = 2 ∨ n = 3 ∨ n = 4 ∨ n = 5 ∨ n = 6 ∨ n = 7 ∨ n = 8 ∨ n = 9 := by omega
  rcases this with rfl | rfl | rfl | rfl | rfl | rfl | rfl | rfl | rfl | rfl <;> decide
/-! one word -/
theorem itoa_word {n : Int} (h : 0 ≤ n ∧ n ≤ 999999999) : Lib.itoa n ≠ [] ∧ (∀ c ∈ Lib.itoa n, kb c ≠ 0) := by
  have key : ∀ (k : Nat) (n : Int), n.toNat < k → 0 ≤ n → Lib.itoa n ≠ [] ∧ (∀ c ∈ Lib.itoa n, kb c ≠ 0) := by
    intro k
    induction k with
    | zero => intro n h; omega
    | succ k ih =>
      intro n hk h0
      have one : ∀ d : Int, 0 ≤ d ∧ d < 10 → Lib.itoa d ≠ [] ∧ (∀ c ∈ Lib.itoa d, kb c ≠ 0) := by
        intro d hd
        rw [itoa_small hd]
        refine ⟨by simp, fun c hc => ?_⟩
        simp only [List.mem_cons, List.not_mem_nil, or_false] at hc
        subst hc
        rw [(dig_ofNat hd).1]; decide
      by_cases h10 : n < 10
      · exact one n ⟨h0, h10⟩
      · rw [itoa_big (by omega)]
        have h1 := ih (n / 10) (by omega) (by omega)
        have h2 := one (n % 10) (by omega)
        refine ⟨by simp [h1.1], fun c hc => ?_⟩
        rcases List.mem_append.1 hc with hc | hc
        · exact h1.2 c hc
        · exact h2.2 c hc
  exact key (n.toNat + 1) n (by omega) h.1
end Go.Proofs.YtbmicnajedeenaaGreatDoor
