/- Plain functions on bytes that say what the lexer does, and their laws. Nothing of the program is named here. -/
import GoSem.Claim
import Derived.Laws.RangeString
import Derived.Lib.DecodeN
namespace Go.Proofs.YtdnolbbkphgfiaaDoor

/-- the kind of a rune -/
def kindI (c : Int) : Int := if (97 ≤ c ∧ c ≤ 122) ∨ c = 95 then 1 else if 65 ≤ c ∧ c ≤ 90 then 2 else if 48 ≤ c ∧ c ≤ 57 then 3 else 0
def kb (c : UInt8) : Int := kindI c.toNat

theorem kindI_range (c : Int) : 0 ≤ kindI c ∧ kindI c ≤ 3 := by
  unfold kindI; repeat' split
  all_goals omega
theorem kindI_hi (c : Int) (h : 128 ≤ c) : kindI c = 0 := by
  unfold kindI; repeat' split
  all_goals omega

def isNm (first : Int) (l : List UInt8) : Bool :=
  match l with
  | [] => false
  | c :: r => decide (r.length < 12) && (kb c == first) && (c :: r).all (fun c => kb c != 0)

def strB (l : List UInt8) : ByteArray := ⟨l.toArray⟩
theorem strB_data (s : ByteArray) : strB s.data.toList = s := rfl
theorem data_strB (l : List UInt8) : (strB l).data.toList = l := rfl

def kwList : List (List UInt8) := [[102, 117, 110], [108, 101, 116], [114, 101, 99], [105, 110], [105, 102], [116, 104, 101, 110], [101, 108, 115, 101], [109, 97, 116, 99, 104], [100, 111], [104, 97, 110, 100, 108, 101], [115, 104, 97, 108, 108, 111, 119], [110, 97, 109, 101, 100], [109, 97, 115, 107], [117, 115, 105, 110, 103], [99, 108, 111, 115, 101], [114, 101, 115, 117, 109, 101], [100, 114, 111, 112], [114, 101, 116, 117, 114, 110], [116, 114, 117, 101], [102, 97, 108, 115, 101], [100, 97, 116, 97], [101, 102, 102, 101, 99, 116], [111, 110, 99, 101], [100, 101, 102], [109, 97, 105, 110]]
def isKw (l : List UInt8) : Bool := kwList.contains l

def symList : List (List UInt8) := [[61, 61], [45, 62], [40], [41], [123], [125], [91], [93], [44], [59], [58], [46], [61], [60], [62], [124], [64], [43], [45], [42]]
def isSym (l : List UInt8) : Bool := symList.contains l

/-- digits read from the left, from a number on -/
def intGo : Int → List UInt8 → Option Int
  | n, [] => some n
  | n, c :: r => if kb c = 3 then (if 999999999 < 10 * n + ((c.toNat : Int) - 48) then none else intGo (10 * n + ((c.toNat : Int) - 48)) r) else none
def integerS (l : List UInt8) : Option Int :=
  match l with
  | [] => none
  | c :: r => if decide (0 < r.length) && (c == 48) then none else intGo 0 (c :: r)

/-- the token that bytes are: its kind, its string, its number -/
def tokS (l : List UInt8) : Option (Int × List UInt8 × Int) :=
  match integerS l with
  | some n => some (3, [], n)
  | none => if isKw l then some (1, l, 0) else if isNm 1 l then some (0, l, 0) else if isNm 2 l then some (2, l, 0) else if isSym l then some (4, l, 0) else none

def wordLen (l : List UInt8) : Nat := (l.takeWhile (fun c => kb c != 0)).length
def symAt (l : List UInt8) : List UInt8 := (symList.find? (fun s => s.isPrefixOf l)).getD []
def partOf (l : List UInt8) : List UInt8 := if wordLen l = 0 then symAt l else l.take (wordLen l)
/-- how many bytes of space there are, within a comment or not -/
def spLen : Bool → List UInt8 → Nat
  | _, [] => 0
  | cm, c :: r => if c = 10 then 1 + spLen false r else if c = 35 then 1 + spLen true r else if cm || c == 32 || c == 9 then 1 + spLen cm r else 0

structure Tk where
  kind : Int
  s : List UInt8
  n : Int
  pos : Nat

/-- the tokens of a text, and the byte at which the token that was looked for last begins, or would have to -/
def lexF : Nat → Nat → List UInt8 → List Tk × Nat
  | 0, off, _ => ([], off)
  | f + 1, off, l =>
    match tokS (partOf (l.drop (spLen false l))) with
    | none => ([], off + spLen false l)
    | some (k, s, n) =>
      (⟨k, s, n, off + spLen false l⟩ :: (lexF f (off + spLen false l + (partOf (l.drop (spLen false l))).length) (l.drop (spLen false l + (partOf (l.drop (spLen false l))).length))).1,
        (lexF f (off + spLen false l + (partOf (l.drop (spLen false l))).length) (l.drop (spLen false l + (partOf (l.drop (spLen false l))).length))).2)

def lexS (l : List UInt8) : List Tk × Int × Int :=
  if 30000 < l.length then ([], 0, 3) else if (lexF (l.length + 1) 0 l).2 < l.length then ([], (lexF (l.length + 1) 0 l).2, 2) else ((lexF (l.length + 1) 0 l).1, 0, 0)

theorem decode_hi (s : ByteArray) (pos : Nat) (h : pos < s.size) (ha : 128 ≤ (s[pos]'h).toNat) : 128 ≤ (Utf8.decode s pos).1 := by
  have e : s.get! pos = s[pos]'h := by
    simp [ByteArray.get!, getElem!_pos, h]
    rfl
  rw [Lib.decode_at, e]
  unfold Lib.decodeN
  rw [if_neg (by omega)]
  repeat' split
  all_goals simp_all
  all_goals omega

/-! names -/
theorem isNm_true {first : Int} {l : List UInt8} (h0 : 0 < l.length) (hl : l.length ≤ 12) (hf : kb (l[0]'h0) = first) (ha : ∀ (j : Nat) (h : j < l.length), kb (l[j]'h) ≠ 0) : isNm first l = true := by
  cases l with
  | nil => simp at h0
  | cons c r =>
    simp only [isNm, Bool.and_eq_true, decide_eq_true_eq, beq_iff_eq, List.all_eq_true, bne_iff_ne]
    simp only [List.length_cons] at hl
    refine ⟨⟨by omega, hf⟩, fun x hx => ?_⟩
    obtain ⟨j, hj, rfl⟩ := List.getElem_of_mem hx
    exact ha j hj
theorem isNm_long {first : Int} {l : List UInt8} (hl : 12 < l.length) : isNm first l = false := by
  cases l with
  | nil => rfl
  | cons c r => simp only [isNm, List.length_cons] at *; rw [decide_eq_false (by omega)]; rfl
theorem isNm_bad {first : Int} {l : List UInt8} (j : Nat) (h : j < l.length) (hk : kb (l[j]'h) = 0) : isNm first l = false := by
  cases l with
  | nil => rfl
  | cons c r =>
    have : (c :: r).all (fun c => kb c != 0) = false := by
      rw [List.all_eq_false]
      exact ⟨_, List.getElem_mem h, by simp [hk]⟩
    simp only [isNm, this, Bool.and_false]
theorem isNm_first {first : Int} {l : List UInt8} (h0 : 0 < l.length) (hf : kb (l[0]'h0) ≠ first) : isNm first l = false := by
  cases l with
  | nil => rfl
  | cons c r =>
    have : (kb c == first) = false := by simpa using hf
    simp only [isNm, this, Bool.and_false, Bool.false_and]

theorem wordLen_eq : ∀ (l : List UInt8) (k : Nat), k ≤ l.length → (∀ (j : Nat) (h : j < l.length), j < k → kb (l[j]'h) ≠ 0) → (∀ h : k < l.length, kb (l[k]'h) = 0) → wordLen l = k
  | [], k, hk, _, _ => by simp at hk; subst hk; rfl
  | c :: r, 0, _, _, h2 => by
    have := h2 (by simp)
    simp only [List.getElem_cons_zero] at this
    simp [wordLen, this]
  | c :: r, k + 1, hk, h1, h2 => by
    have h0 := h1 0 (by simp) (by omega)
    simp only [List.getElem_cons_zero] at h0
    have ih := wordLen_eq r k (by simpa using hk) (fun j h hj => by have := h1 (j + 1) (by simpa using h) (by omega); simpa using this) (fun h => by have := h2 (by simpa using h); simpa using this)
    simp only [wordLen] at ih
    simp [wordLen, h0, ih]
theorem spLen_le : ∀ (c : Bool) (l : List UInt8), spLen c l ≤ l.length
  | _, [] => by simp [spLen]
  | cm, c :: r => by
    have h1 := spLen_le false r
    have h2 := spLen_le true r
    have h3 := spLen_le cm r
    unfold spLen
    simp only [List.length_cons]
    repeat' split
    all_goals omega
theorem wordLen_le (l : List UInt8) : wordLen l ≤ l.length := by
  unfold wordLen; exact (List.takeWhile_sublist _).length_le

theorem partOf_le (l : List UInt8) : (partOf l).length ≤ l.length := by
  unfold partOf
  split
  · unfold symAt
    cases h : symList.find? (fun s => s.isPrefixOf l) with
    | none => simp
    | some x =>
      have := List.find?_some h
      rw [List.isPrefixOf_iff_prefix] at this
      exact this.length_le
  · rw [List.length_take]; omega
theorem tokS_nil : tokS [] = none := by decide
theorem lexF_none {f p o : Nat} {l : List UInt8} (ho : o = p + spLen false (l.drop p)) (h : tokS (partOf (l.drop o)) = none) : lexF (f + 1) p (l.drop p) = ([], o) := by
  have e : (l.drop p).drop (spLen false (l.drop p)) = l.drop o := by rw [List.drop_drop, ho]
  simp only [lexF]
  rw [e, h]
  simp only []
  rw [ho]
theorem lexF_some {f p o : Nat} {l : List UInt8} {k n : Int} {s : List UInt8} (ho : o = p + spLen false (l.drop p)) (h : tokS (partOf (l.drop o)) = some (k, s, n)) :
    lexF (f + 1) p (l.drop p) = (⟨k, s, n, o⟩ :: (lexF f (o + (partOf (l.drop o)).length) (l.drop (o + (partOf (l.drop o)).length))).1, (lexF f (o + (partOf (l.drop o)).length) (l.drop (o + (partOf (l.drop o)).length))).2) := by
  have e : (l.drop p).drop (spLen false (l.drop p)) = l.drop o := by rw [List.drop_drop, ho]
  have e2 : (l.drop p).drop (spLen false (l.drop p) + (partOf (l.drop o)).length) = l.drop (o + (partOf (l.drop o)).length) := by rw [List.drop_drop, ho]; congr 1; omega
  simp only [lexF]
  rw [e, h]
  simp only []
  rw [e2, ho]
theorem part_pos {l : List UInt8} {x : Int × List UInt8 × Int} (h : tokS (partOf l) = some x) : 0 < (partOf l).length := by
  rcases Nat.eq_zero_or_pos (partOf l).length with h0 | h0
  · rw [List.eq_nil_of_length_eq_zero h0, tokS_nil] at h; cases h
  · exact h0
end Go.Proofs.YtdnolbbkphgfiaaDoor
