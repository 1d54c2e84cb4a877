/- What CutPrefix, cutClass, readOctal and readSingle answer. -/
import Derived.Test.YtjgboecifonjdaaGreatDoorSePlain
import Derived.WalkSpells
import Derived.MapKept
import Derived.Deep.QuietTactic
import Derived.BigQuiet
import Derived.Lib.AppendStr
import Derived.Lib.Builder
import Derived.Lib.Strings
namespace Go.Proofs.YtjgboecifonjdaaGreatDoor.Se
open Go.RowKit

abbrev bs (s : ByteArray) : Bs := s.data.toList
theorem bs_len (s : ByteArray) : (bs s).length = s.size := rfl
theorem bs_at (s : ByteArray) (i : Nat) (h : i < s.size) : (bs s).drop i = s[i] :: (bs s).drop (i + 1) := List.drop_eq_getElem_cons (by simpa using h)
theorem bs_end (s : ByteArray) (i : Nat) (h : s.size ≤ i) : (bs s).drop i = [] := List.drop_eq_nil_of_le (by simpa using h)
theorem bs_ext (s : ByteArray) (i j : Nat) : bs (s.extract i j) = ((bs s).drop i).take (j - i) := by rw [Lib.extract_eq]
theorem bs_from (s : ByteArray) (i : Nat) : bs (s.extract i s.size) = (bs s).drop i := by
  rw [bs_ext, List.take_of_length_le (by rw [List.length_drop, bs_len]; exact Nat.le_refl _)]
theorem bs_to (s : ByteArray) (j : Nat) : bs (s.extract 0 j) = (bs s).take j := by rw [bs_ext]; rfl
theorem ba_ext {a b : ByteArray} (h : bs a = bs b) : a = b := by
  obtain ⟨x⟩ := a; obtain ⟨y⟩ := b
  congr 1
  exact Array.toList_inj.1 h
theorem size_from (s : ByteArray) (i : Nat) : (s.extract i s.size).size = s.size - i := by
  rw [← bs_len, bs_from, List.length_drop, bs_len]

def pre (p s : Bs) : Bool := decide (s.take p.length = p)
theorem hasPrefix_any (s p : ByteArray) (w : World) (_hs : s.size ≤ 9223372036854775807) (_hp : p.size ≤ 100) :
    Calls Tryz.prog 93 #[.string s, .string p] w fun e w' => e = .returned (.bool (pre (bs p) (bs s))) ∧ w' = w := by
  by_cases h : p.size ≤ s.size
  · have h' : (p.size : Int) ≤ (s.size : Int) := by omega
    go_enter Tryz.func93, Tryz.ntmps93
    go_wp2
    go_ret
    refine ⟨congrArg (fun b => Ending.returned (.bool b)) ?_, rfl⟩
    show ((s.extract 0 p.size).toList == p.toList) = _
    rw [ByteArray.toList_eq, ByteArray.toList_eq]
    show (bs (s.extract 0 p.size) == bs p) = _
    rw [bs_to, pre, bs_len, Bool.eq_iff_iff]
    simp
  · have h' : ¬ (p.size : Int) ≤ (s.size : Int) := by omega
    go_enter Tryz.func93, Tryz.ntmps93
    go_wp2
    go_ret
    refine ⟨congrArg (fun b => Ending.returned (.bool b)) ?_, rfl⟩
    show false = _
    unfold pre
    symm
    rw [decide_eq_false_iff_not]
    intro e
    have := congrArg List.length e
    rw [List.length_take, bs_len, bs_len] at this
    omega
theorem cutPrefix_b (s p : ByteArray) (b : Bool) (w : World) (hs : s.size ≤ 9223372036854775807) (hp : p.size ≤ 100) (h : pre (bs p) (bs s) = b) :
    Calls Tryz.prog 86 #[.string s, .string p] w fun e w' => e = .returned (.tuple #[.string (if b = true then s.extract p.size s.size else s), .bool b]) ∧ w' = w := by
  have HH : Hid (∀ W, Calls Tryz.prog 93 #[.string s, .string p] W fun e w' => e = .returned (.bool b) ∧ w' = W) := fun W => h ▸ hasPrefix_any s p W hs hp
  cases b
  · clear h
    go_enter Tryz.func86, Tryz.ntmps86
    go_wp2_with (first | (go_at_call 93; refine (unhide HH _).mono ?_; rintro e w' ⟨rfl, rfl⟩) | (go_at_call 90; go_in))
    go_ret2
    exact ⟨rfl, rfl⟩
  · have hle : p.size ≤ s.size := by
      unfold pre at h
      have := congrArg List.length (of_decide_eq_true h)
      rw [List.length_take, bs_len, bs_len] at this
      omega
    clear h
    go_enter Tryz.func86, Tryz.ntmps86
    go_wp2_with (first | (go_at_call 93; refine (unhide HH _).mono ?_; rintro e w' ⟨rfl, rfl⟩) | (go_at_call 90; go_in))
    go_ret2
    exact ⟨rfl, rfl⟩

/-! ### a class's text -/
theorem pre2 (a b : UInt8) (s : Bs) : pre [a, b] s = match s with | x :: y :: _ => decide (x = a ∧ y = b) | _ => false := by
  match s with
  | [] => simp [pre]
  | [x] => simp [pre]
  | x :: y :: t => simp [pre]
/-- what stands behind [: -/
def cut2 (r : Bs) : Option (Bs × Bs) := if pre [58, 93] (r.dropWhile low) = true then some (r.takeWhile low, (r.dropWhile low).drop 2) else none
theorem cutC_no {s : Bs} (h : pre [91, 58] s = false) : cutC s = none := by
  rw [pre2] at h
  unfold cutC
  split
  · simp only [decide_eq_false_iff_not] at h
    rw [if_neg h]
  · rfl
theorem cutC_yes {s : Bs} (h : pre [91, 58] s = true) : cutC s = cut2 (s.drop 2) := by
  rw [pre2] at h
  match s, h with
  | a :: b :: t, h =>
    simp only [decide_eq_true_eq] at h
    simp only [cutC, h, and_self, ↓reduceIte, List.drop_succ_cons, List.drop_zero]
    unfold cut2
    rw [pre2]
    rcases t.dropWhile low with _ | ⟨c, _ | ⟨d, u⟩⟩
    · rfl
    · rfl
    · by_cases hc : c = 58 ∧ d = 93
      · simp [hc]
      · simp [hc]
theorem low_int (c : UInt8) : low c = (decide (97 ≤ (c.toNat : Int)) && decide ((c.toNat : Int) ≤ 122)) := by
  unfold low
  congr 1
  · congr 1; rw [UInt8.le_iff_toNat_le]; simp; omega
  · congr 1; rw [UInt8.le_iff_toNat_le]; simp; omega

/-- what cutClass hands back -/
def CutR (s : Bs) (e : Ending) : Prop := ∃ (n r : ByteArray) (ok : Bool), e = .returned (.tuple #[.string n, .string r, .bool ok]) ∧ ((ok = false ∧ cutC s = none) ∨ (ok = true ∧ cutC s = some (bs n, bs r)))

set_option maxHeartbeats 1000000 in
set_option maxRecDepth 100000 in
theorem cutClass_any (s : ByteArray) (w : World) (hs : s.size ≤ 4611686018427387900) :
    Calls Tryz.prog 55 #[.string s] w fun e w' => CutR (bs s) e ∧ w' = w := by
  cases hp : pre [91, 58] (bs s)
  · have HC := hide (fun W => cutPrefix_b s { data := #[91, 58] } false W (by omega) (by decide) hp)
    have HN := hide (cutC_no hp)
    clear hp
    go_enter Tryz.func55, Tryz.ntmps55
    go_wp2_with fail
    refine (unhide HC _).mono ?_
    rintro e w' ⟨rfl, rfl⟩
    go_wp2_with fail
    go_ret3
    exact ⟨⟨_, _, _, rfl, .inl ⟨rfl, unhide HN⟩⟩, rfl⟩
  · have HC := hide (fun W => cutPrefix_b s { data := #[91, 58] } true W (by omega) (by decide) hp)
    have HN := hide (cutC_yes hp)
    clear hp
    obtain ⟨r, hr⟩ : ∃ r, r = s.extract 2 s.size := ⟨_, rfl⟩
    have HR : Hid (bs r = (bs s).drop 2) := by rw [hr]; exact bs_from s 2
    have hrs : r.size ≤ 4611686018427387900 := by rw [hr, size_from]; omega
    have HC2 : Hid (∀ W, Calls Tryz.prog 86 #[.string s, .string { data := #[91, 58] }] W fun e w' => e = .returned (.tuple #[.string r, .bool true]) ∧ w' = W) := fun W => by rw [hr]; exact unhide HC W
    clear hr HC
    go_enter Tryz.func55, Tryz.ntmps55
    go_wp2_with fail
    refine (unhide HC2 _).mono ?_
    rintro e w' ⟨rfl, rfl⟩
    go_wp2_with fail
    go_loopw [7] (fun i wr => ∃ k : Nat, k ≤ r.size ∧ i = .int .i64 k ∧ wr = w' ∧ Hid ((bs r).takeWhile low = (bs r).take k ++ ((bs r).drop k).takeWhile low) ∧ Hid ((bs r).dropWhile low = ((bs r).drop k).dropWhile low)) (fun i _ => r.size - (intOf i).toNat)
    case atStart => exact ⟨0, Nat.zero_le _, rfl, rfl, by simp [Hid], by simp [Hid]⟩
    case round =>
      obtain ⟨k, hk, rfl, rfl, h1, h2⟩ := hrel
      have fin : Hid (((bs r).drop k).takeWhile low = [] → ((bs r).drop k).dropWhile low = (bs r).drop k → ∀ ok, pre [58, 93] ((bs r).drop k) = ok → (ok = false ∧ cutC (bs s) = none) ∨ (ok = true ∧ cutC (bs s) = some (bs (r.extract 0 k), bs (if ok = true then (r.extract k r.size).extract 2 (r.extract k r.size).size else (r.extract k r.size))))) := by
        intro e1 e2 ok hok
        have a1 := unhide h1
        have a2 := unhide h2
        rw [e1, List.append_nil] at a1
        rw [e2] at a2
        rw [unhide HN, ← unhide HR]
        unfold cut2
        rw [a1, a2, hok]
        cases ok
        · exact .inl ⟨rfl, rfl⟩
        · refine .inr ⟨rfl, ?_⟩
          simp only [↓reduceIte]
          rw [bs_to, bs_from, bs_from]
      have hsz2 : (r.extract k r.size).size ≤ 9223372036854775807 := by rw [size_from]; omega
      have HD : Hid (∀ W ok, pre [58, 93] ((bs r).drop k) = ok → Calls Tryz.prog 86 #[.string (r.extract k r.size), .string { data := #[58, 93] }] W fun e w' => e = .returned (.tuple #[.string (if ok = true then (r.extract k r.size).extract 2 (r.extract k r.size).size else (r.extract k r.size)), .bool ok]) ∧ w' = W) := by
        intro W ok hok
        exact cutPrefix_b (r.extract k r.size) { data := #[58, 93] } ok W hsz2 (by decide) (by rw [bs_from]; exact hok)
      clear hsz2
      by_cases hlt : k < r.size
      · have hc0 : (0 : Int) ≤ (r[k].toNat : Int) := by omega
        have hat := hide (bs_at r k hlt)
        have hL := hide (low_int r[k])
        by_cases ha : 97 ≤ (r[k].toNat : Int)
        · by_cases hb : (r[k].toNat : Int) ≤ 122
          · have hlow : Hid (low r[k] = true) := by rw [unhide hL]; simp [ha, hb, Hid]
            have n1 : Hid ((bs r).takeWhile low = (bs r).take (k + 1) ++ ((bs r).drop (k + 1)).takeWhile low) := by
              show _ = _
              rw [unhide h1, unhide hat, List.takeWhile_cons_of_pos (unhide hlow)]
              rw [List.take_succ_eq_append_getElem (by simpa using hlt)]
              simp
              rfl
            have n2 : Hid ((bs r).dropWhile low = ((bs r).drop (k + 1)).dropWhile low) := by
              show _ = _
              rw [unhide h2, unhide hat, List.dropWhile_cons_of_pos (unhide hlow)]
            clear h1 h2 fin HD
            go_wp2_with fail
            go_roundw
            case rel => exact ⟨k + 1, by omega, by go_num, by trivial, n1, n2⟩
            case measure => simp [intOf]; omega
          · have hlow : low r[k] = false := by rw [unhide hL]; simp; omega
            have fin2 := hide (unhide fin (by rw [unhide hat, List.takeWhile_cons_of_neg (by simp [hlow])]) (by rw [unhide hat, List.dropWhile_cons_of_neg (by simp [hlow])]))
            clear fin h1 h2 hlow
            obtain ⟨ok, hok⟩ : ∃ ok, ok = pre [58, 93] ((bs r).drop k) := ⟨_, rfl⟩
            have HD1 := (fun W => unhide HD W ok hok.symm)
            have F3 := unhide fin2 ok hok.symm
            clear HD fin2 hok
            obtain ⟨t, ht⟩ : ∃ t, t = (if ok = true then (r.extract k r.size).extract 2 (r.extract k r.size).size else r.extract k r.size) := ⟨_, rfl⟩
            rw [← ht] at F3
            have HD2 : Hid (∀ W, Calls Tryz.prog 86 #[.string (r.extract k r.size), .string { data := #[58, 93] }] W fun e w' => e = .returned (.tuple #[.string t, .bool ok]) ∧ w' = W) := fun W => by rw [ht]; exact HD1 W
            have F3 := hide F3
            clear ht HD1
            go_wp2_with fail
            refine (unhide HD2 _).mono ?_
            rintro e w' ⟨rfl, rfl⟩
            go_wp2_with fail
            go_ret3
            exact ⟨⟨_, _, _, rfl, unhide F3⟩, rfl⟩
        · have hlow : low r[k] = false := by rw [unhide hL]; simp; omega
          have fin2 := hide (unhide fin (by rw [unhide hat, List.takeWhile_cons_of_neg (by simp [hlow])]) (by rw [unhide hat, List.dropWhile_cons_of_neg (by simp [hlow])]))
          clear fin h1 h2 hlow
          obtain ⟨ok, hok⟩ : ∃ ok, ok = pre [58, 93] ((bs r).drop k) := ⟨_, rfl⟩
          have HD1 := (fun W => unhide HD W ok hok.symm)
          have F3 := unhide fin2 ok hok.symm
          clear HD fin2 hok
          obtain ⟨t, ht⟩ : ∃ t, t = (if ok = true then (r.extract k r.size).extract 2 (r.extract k r.size).size else r.extract k r.size) := ⟨_, rfl⟩
          rw [← ht] at F3
          have HD2 : Hid (∀ W, Calls Tryz.prog 86 #[.string (r.extract k r.size), .string { data := #[58, 93] }] W fun e w' => e = .returned (.tuple #[.string t, .bool ok]) ∧ w' = W) := fun W => by rw [ht]; exact HD1 W
          have F3 := hide F3
          clear ht HD1
          go_wp2_with fail
          refine (unhide HD2 _).mono ?_
          rintro e w' ⟨rfl, rfl⟩
          go_wp2_with fail
          go_ret3
          exact ⟨⟨_, _, _, rfl, unhide F3⟩, rfl⟩
      · have hd : (bs r).drop k = [] := bs_end r k (by omega)
        have fin2 := hide (unhide fin (by rw [hd]; rfl) (by rw [hd]; rfl))
        clear fin h1 h2 hd
        obtain ⟨ok, hok⟩ : ∃ ok, ok = pre [58, 93] ((bs r).drop k) := ⟨_, rfl⟩
        have HD1 := (fun W => unhide HD W ok hok.symm)
        have F3 := unhide fin2 ok hok.symm
        clear HD fin2 hok
        obtain ⟨t, ht⟩ : ∃ t, t = (if ok = true then (r.extract k r.size).extract 2 (r.extract k r.size).size else r.extract k r.size) := ⟨_, rfl⟩
        rw [← ht] at F3
        have HD2 : Hid (∀ W, Calls Tryz.prog 86 #[.string (r.extract k r.size), .string { data := #[58, 93] }] W fun e w' => e = .returned (.tuple #[.string t, .bool ok]) ∧ w' = W) := fun W => by rw [ht]; exact HD1 W
        have F3 := hide F3
        clear ht HD1
        go_wp2_with fail
        refine (unhide HD2 _).mono ?_
        rintro e w' ⟨rfl, rfl⟩
        go_wp2_with fail
        go_ret3
        exact ⟨⟨_, _, _, rfl, unhide F3⟩, rfl⟩
end Go.Proofs.YtjgboecifonjdaaGreatDoor.Se
