/- What options a text tells, and what the options of words are, in plain words over lists of bytes: no program is named here. -/
import Derived.WalkKit
import Derived.Lib.Strings
import Derived.Lib.IndexBytes
namespace Go.Proofs.YtamgehfppeknhaaDoor.Pa
open Go.RowKit

theorem hide {p : Prop} (h : p) : Hid p := h
theorem unhide {p : Prop} (h : Hid p) : p := h.out

abbrev Fl := List (Int × ByteArray)

def okL (c : Int) : Bool := decide ((65 ≤ c ∧ c ≤ 90) ∨ (97 ≤ c ∧ c ≤ 122) ∨ (48 ≤ c ∧ c ≤ 57))
def upd (K : Int → Int) (c v : Int) : Int → Int := fun x => if x = c then v else K x
def rd : List UInt8 → (Int → Int) → Option (Int → Int)
  | [], K => some K
  | [c], K => if okL c.toNat = true ∧ K c.toNat = 0 then some (upd K c.toNat 1) else none
  | c :: d :: t, K => if okL c.toNat = true ∧ K c.toNat = 0 then (if d.toNat = 58 then rd t (upd K c.toNat 2) else rd (d :: t) (upd K c.toNat 1)) else none

def bs (l : List UInt8) : ByteArray := ⟨l.toArray⟩
def lets (K : Int → Int) (nx : Option ByteArray) : List UInt8 → Fl → Option (Fl × Bool)
  | [], fl => some (fl, false)
  | c :: t, fl =>
    if K c.toNat = 1 then lets K nx t (fl ++ [((c.toNat : Int), ByteArray.empty)])
    else if K c.toNat = 2 then
      (if t = [] then (match nx with | none => none | some x => some (fl ++ [((c.toNat : Int), x)], true)) else some (fl ++ [((c.toNat : Int), bs t)], false))
    else none
def isOpt (w : List UInt8) : Bool := decide (1 < w.length) && (w.head? == some 45)
def words (K : Int → Int) : List ByteArray → Fl → Option (Fl × List ByteArray)
  | [], fl => some (fl, [])
  | w :: ws, fl =>
    if w.data.toList = [45, 45] then some (fl, ws)
    else if isOpt w.data.toList = true then
      match lets K ws.head? (w.data.toList.drop 1) fl with
      | none => none
      | some (fl', false) => words K ws fl'
      | some (fl', true) => match ws with | [] => none | _ :: ws' => words K ws' fl'
    else some (fl, w :: ws)
def after (K : Int → Int) (ws : List ByteArray) : Option (Fl × Bool) → Option (Fl × List ByteArray)
  | none => none
  | some (fl', false) => words K ws fl'
  | some (fl', true) => match ws with | [] => none | _ :: ws' => words K ws' fl'
theorem words_cons (K : Int → Int) (w : ByteArray) (ws : List ByteArray) (fl : Fl) : words K (w :: ws) fl =
    if w.data.toList = [45, 45] then some (fl, ws) else if isOpt w.data.toList = true then after K ws (lets K ws.head? (w.data.toList.drop 1) fl) else some (fl, w :: ws) := by
  rw [words]
  split
  · rfl
  · split
    · unfold after
      rfl
    · rfl

/-- the whole: flags, what is left, and the error's number -/
def parse (which : ByteArray) (ss : List ByteArray) : Fl × List ByteArray × Int :=
  match rd which.data.toList (fun _ => 0) with
  | none => ([], [], 1)
  | some K => if 256 < ss.length then ([], [], 3) else match words K ss [] with
    | none => ([], [], 4)
    | some (fl, rest) => (fl, rest, 0)

def fcl : Fl → List Value
  | [] => []
  | p :: l => .int .u8 p.1 :: .string p.2 :: fcl l
theorem fcl_snoc (fl : Fl) (c : Int) (a : ByteArray) : fcl (fl ++ [(c, a)]) = fcl fl ++ [.int .u8 c, .string a] := by
  induction fl with
  | nil => rfl
  | cons p l ih => simp [fcl, ih]
theorem fcl_length (fl : Fl) : (fcl fl).length = fl.length * 2 := by
  induction fl with
  | nil => rfl
  | cons p l ih => simp [fcl, ih]; omega

def tot : List ByteArray → Nat
  | [] => 0
  | s :: l => s.size + tot l
theorem tot_drop (ss : List ByteArray) (k : Nat) : tot (ss.drop k) ≤ tot ss := by
  induction ss generalizing k with
  | nil => simp
  | cons s l ih =>
    cases k with
    | zero => simp
    | succ k => simp only [List.drop_succ_cons, tot]; have := ih k; omega

/-! ### steps -/
theorem drop_at (s : ByteArray) (i : Nat) (h : i < s.size) : s.data.toList.drop i = s[i] :: s.data.toList.drop (i + 1) := by
  have hl : i < s.data.toList.length := by simpa using h
  exact List.drop_eq_getElem_cons hl
theorem drop_end (s : ByteArray) (i : Nat) (h : s.size ≤ i) : s.data.toList.drop i = [] :=
  List.drop_eq_nil_of_le (by simpa using h)
theorem ext_bs (s : ByteArray) (i : Nat) : s.extract i s.size = bs (s.data.toList.drop i) := by
  unfold bs
  rw [Lib.extract_eq]
  congr 2
  exact List.take_of_length_le (by rw [List.length_drop]; have : s.data.toList.length = s.size := rfl; omega)

theorem rd_last (s : ByteArray) (i : Nat) (K : Int → Int) (h : i + 1 = s.size) (h1 : okL (s[i]'(by omega)).toNat = true) (h2 : K (s[i]'(by omega)).toNat = 0) :
    rd (s.data.toList.drop i) K = rd (s.data.toList.drop (i + 1)) (upd K (s[i]'(by omega)).toNat 1) := by
  rw [drop_at s i (by omega), drop_end s (i + 1) (by omega)]
  simp [rd, h1, h2]
theorem rd_one (s : ByteArray) (i : Nat) (K : Int → Int) (h : i + 1 < s.size) (h1 : okL (s[i]'(by omega)).toNat = true) (h2 : K (s[i]'(by omega)).toNat = 0) (h3 : ¬ (s[i + 1]'h).toNat = 58) :
    rd (s.data.toList.drop i) K = rd (s.data.toList.drop (i + 1)) (upd K (s[i]'(by omega)).toNat 1) := by
  rw [drop_at s i (by omega), drop_at s (i + 1) (by omega)]
  simp [rd, h1, h2, h3]
theorem rd_two (s : ByteArray) (i : Nat) (K : Int → Int) (h : i + 1 < s.size) (h1 : okL (s[i]'(by omega)).toNat = true) (h2 : K (s[i]'(by omega)).toNat = 0) (h3 : (s[i + 1]'h).toNat = 58) :
    rd (s.data.toList.drop i) K = rd (s.data.toList.drop (i + 2)) (upd K (s[i]'(by omega)).toNat 2) := by
  rw [drop_at s i (by omega), drop_at s (i + 1) (by omega)]
  simp [rd, h1, h2, h3]
theorem rd_no (s : ByteArray) (i : Nat) (K : Int → Int) (h : i < s.size) (h1 : ¬ (okL s[i].toNat = true ∧ K s[i].toNat = 0)) :
    rd (s.data.toList.drop i) K = none := by
  rw [drop_at s i h]
  cases s.data.toList.drop (i + 1) with
  | nil => simp only [rd]; rw [if_neg h1]
  | cons d t => simp only [rd]; rw [if_neg h1]
theorem rd_end (s : ByteArray) (i : Nat) (K : Int → Int) (h : s.size ≤ i) : rd (s.data.toList.drop i) K = some K := by
  rw [drop_end s i h]; rfl

theorem lets_one (K : Int → Int) (nx : Option ByteArray) (s : ByteArray) (i : Nat) (fl : Fl) (h : i < s.size) (hk : K s[i].toNat = 1) :
    lets K nx (s.data.toList.drop i) fl = lets K nx (s.data.toList.drop (i + 1)) (fl ++ [((s[i].toNat : Int), ByteArray.empty)]) := by
  rw [drop_at s i h]; simp [lets, hk]
theorem lets_told (K : Int → Int) (nx : Option ByteArray) (s : ByteArray) (i : Nat) (fl : Fl) (h : i + 1 < s.size) (hk : K (s[i]'(by omega)).toNat = 2) :
    lets K nx (s.data.toList.drop i) fl = some (fl ++ [(((s[i]'(by omega)).toNat : Int), s.extract (i + 1) s.size)], false) := by
  rw [drop_at s i (by omega), ext_bs]
  have : ¬ s.data.toList.drop (i + 1) = [] := by rw [drop_at s (i + 1) h]; simp
  simp [lets, hk, this]
theorem lets_next (K : Int → Int) (x : ByteArray) (s : ByteArray) (i : Nat) (fl : Fl) (h : i + 1 = s.size) (hk : K (s[i]'(by omega)).toNat = 2) :
    lets K (some x) (s.data.toList.drop i) fl = some (fl ++ [(((s[i]'(by omega)).toNat : Int), x)], true) := by
  rw [drop_at s i (by omega), drop_end s (i + 1) (by omega)]
  simp [lets, hk]
theorem lets_lack (K : Int → Int) (s : ByteArray) (i : Nat) (fl : Fl) (h : i + 1 = s.size) (hk : K (s[i]'(by omega)).toNat = 2) :
    lets K none (s.data.toList.drop i) fl = none := by
  rw [drop_at s i (by omega), drop_end s (i + 1) (by omega)]
  simp [lets, hk]
theorem lets_no (K : Int → Int) (nx : Option ByteArray) (s : ByteArray) (i : Nat) (fl : Fl) (h : i < s.size) (h1 : ¬ K s[i].toNat = 1) (h2 : ¬ K s[i].toNat = 2) :
    lets K nx (s.data.toList.drop i) fl = none := by
  rw [drop_at s i h]; simp [lets, h1, h2]
theorem lets_end (K : Int → Int) (nx : Option ByteArray) (s : ByteArray) (i : Nat) (fl : Fl) (h : s.size ≤ i) :
    lets K nx (s.data.toList.drop i) fl = some (fl, false) := by
  rw [drop_end s i h]; rfl

theorem rd_vals (l : List UInt8) (K K' : Int → Int) (h : rd l K = some K') (h0 : ∀ c, K c = 0 ∨ K c = 1 ∨ K c = 2) : ∀ c, K' c = 0 ∨ K' c = 1 ∨ K' c = 2 := by
  fun_induction rd l K with
  | case1 K => cases h; exact h0
  | case2 K c hc => cases h; intro x; unfold upd; split; exact .inr (.inl rfl); exact h0 x
  | case3 => cases h
  | case4 K c d t hc hd ih => exact ih h (by intro x; unfold upd; split; exact .inr (.inr rfl); exact h0 x)
  | case5 K c d t hc hd ih => exact ih h (by intro x; unfold upd; split; exact .inr (.inl rfl); exact h0 x)
  | case6 => cases h
end Go.Proofs.YtamgehfppeknhaaDoor.Pa
