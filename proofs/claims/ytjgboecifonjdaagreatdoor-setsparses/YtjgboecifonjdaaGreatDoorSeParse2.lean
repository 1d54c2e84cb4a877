/- What readThing and Parse answer. -/
import Derived.Test.YtjgboecifonjdaaGreatDoorSeParse
namespace Go.Proofs.YtjgboecifonjdaaGreatDoor.Se
open Go.RowKit

/-- what readThing hands back -/
def ThR (B : Nat) (l : Bs) (o : Option (Bs × Bs)) (e : Ending) (w' : World) : Prop :=
  ∃ (v : Value) (r : ByteArray) (ok : Bool), e = .returned (.tuple #[v, .string r, .bool ok]) ∧ ((ok = false ∧ o = none ∧ v = .slice none 0 0) ∨ (ok = true ∧ ∃ x, o = some (x, bs r) ∧ Row B v (l ++ x) w'))

set_option maxHeartbeats 1000000 in
set_option maxRecDepth 100000 in
theorem readThing_any (w0 : World) (b : Nat) (v : Value) (l : Bs) (s : ByteArray) (w : World) (hN : Named w0 b) (hb : Below w0.heap.size w0 w) (hr : Row w0.heap.size v l w) (hl : l.length ≤ 70000) (hs : s.size ≤ 4611686018427387900) (h0 : 0 < s.size) :
    Calls Tryz.prog 11 #[.map (some b), v, .string s] w fun e w' => ThR w0.heap.size l (thing (bs s)) e w' ∧ Below w0.heap.size w w' := by
  have HN := hide hN
  have HB := hide hb
  have HR := hide hr
  have C1 := hide (fun W => cutClass_any s W hs)
  have C2 := hide (fun W => readRange_any s W hs h0)
  have hs0 := hb.size
  clear hN hb hr
  go_enter Tryz.func11, Tryz.ntmps11
  go_wp2_with fail
  refine (unhide C1 _).mono ?_
  rintro e w1 ⟨⟨n, r, ok, rfl, hh⟩, rfl⟩
  clear C1
  rcases hh with ⟨rfl, hc⟩ | ⟨rfl, hc⟩
  · have G : Hid (thing (bs s) = match range (bs s) with | none => none | some (a, b, r) => some (spanTo a b, r)) := by
      show _ = _
      conv => lhs; unfold thing
      rw [hc]
      rfl
    clear hc
    go_wp2_with fail
    refine (unhide C2 _).mono ?_
    rintro e w2 ⟨⟨a, b, r2, ok2, rfl, hh⟩, hb2⟩
    have HR2 := hide (row_below (unhide HR) hb2)
    have HB2 := hide (hb2.mono hs0)
    have hs2 : w0.heap.size ≤ w2.heap.size := Nat.le_trans hs0 hb2.size
    clear C2 HR hb2
    rcases hh with ⟨rfl, h3⟩ | ⟨rfl, x, y, rfl, rfl, h3⟩
    · have F : Hid (thing (bs s) = none) := by rw [unhide G, h3]; exact rfl
      clear h3 G
      go_wp2_with fail
      go_ret3
      exact ⟨⟨_, _, _, rfl, .inl ⟨rfl, unhide F, rfl⟩⟩, unhide HB2⟩
    · have hxy := range_le h3
      have F : Hid (thing (bs s) = some (spanTo x y, bs r2)) := by rw [unhide G, h3]; exact rfl
      have C3 := hide (appendRange_any w0.heap.size x y v l w2 hs2 (unhide HR2) hxy hl)
      clear h3 G hxy
      go_wp2_with fail
      refine (unhide C3).mono ?_
      rintro e w3 ⟨v3, rfl, hr3, hb3⟩
      have HR3 := hide hr3
      have HB3 := hide ((unhide HB2).trans hb3)
      clear hr3 hb3 C3 HB2 HR2
      go_wp2_with fail
      go_ret3
      exact ⟨⟨_, _, _, rfl, .inr ⟨rfl, _, unhide F, unhide HR3⟩⟩, unhide HB3⟩
  · have G : Hid (thing (bs s) = match clsOf (bs n) with | none => none | some p => some (bytes.filter p, bs r)) := by
      show _ = _
      conv => lhs; unfold thing
      rw [hc]
      rfl
    clear hc C2
    rcases (unhide HN).look (unhide HB) n with ⟨h3, hrun⟩ | ⟨p, f, h3, hf, hrun⟩
    · have F : Hid (thing (bs s) = none) := by rw [unhide G, h3]; exact rfl
      clear h3 G
      go_wp2_with fail
      go_ret3
      exact ⟨⟨_, _, _, rfl, .inl ⟨rfl, unhide F, rfl⟩⟩, Below.refl _ _⟩
    · have F : Hid (thing (bs s) = some (bytes.filter p, bs r)) := by rw [unhide G, h3]; exact rfl
      have C3 := hide (appendClass_any w0 f p v l w1 hf (unhide HB) (unhide HR) hl)
      clear h3 G hf
      go_wp2_with fail
      refine (unhide C3).mono ?_
      rintro e w3 ⟨v3, rfl, hr3, hb3⟩
      have HR3 := hide hr3
      clear hr3 C3
      go_wp2_with fail
      go_ret3
      exact ⟨⟨_, _, _, rfl, .inr ⟨rfl, _, unhide F, unhide HR3⟩⟩, hb3⟩

def strLen : Value → Nat
  | .string s => s.size
  | _ => 0
theorem empty_size {s : ByteArray} (h : s.size = 0) : bs s = [] := List.eq_nil_of_length_eq_zero h
/-- one thing more is read -/
theorem tell_step {f : Nat} {s : Bs} (hs : s.length ≤ f + 1) (h0 : 0 < s.length) : tell (f + 1) s = match thing s with | none => none | some (l, t) => (tell f t).map (l ++ ·) := by
  cases s with
  | nil => simp at h0
  | cons c r => rfl

set_option maxHeartbeats 1000000 in
set_option maxRecDepth 100000 in
theorem parse_any (s : ByteArray) (w : World) (hs : s.size ≤ 4611686018427387900) :
    Calls Tryz.prog 5 #[.string s] w fun e w' => ∃ v, e = .returned (.tuple #[v, .int .i64 (parse (bs s)).2]) ∧ Row w.heap.size v (parse (bs s)).1 w' ∧ Below w.heap.size w w' := by
  have PF : Hid (told (bs s) = none → parse (bs s) = ([], 5)) := fun h => by unfold parse; rw [h]
  have PL : Hid (∀ T, told (bs s) = some T → 65536 < T.length → parse (bs s) = ([], 3)) := fun T h hT => by unfold parse; rw [h]; simp only; rw [if_pos hT]
  have PO : Hid (∀ T, told (bs s) = some T → T.length ≤ 65536 → parse (bs s) = (T, 0)) := fun T h hT => by unfold parse; rw [h]; simp only; rw [if_neg (by omega)]
  go_enter Tryz.func5, Tryz.ntmps5
  go_wp2_with fail
  refine (classes_any w).mono ?_
  rintro e w1 ⟨⟨b, rfl, hwb, hN⟩, hb1⟩
  have HN := hide hN
  have HB1 := hide hb1
  have hs1 := hb1.size
  clear hN hb1
  go_wp2_with fail
  go_loopw [0, 5, 6] (fun sv u ov wr => ∃ (t : ByteArray) (f : Nat) (l T : Bs) (over : Bool), sv = .string t ∧ ov = .bool over ∧ t.size ≤ f ∧ t.size ≤ s.size ∧ l.length ≤ 65536 ∧ Hid (told (bs s) = (tell f (bs t)).map (T ++ ·)) ∧ Hid (over = false → l = T) ∧ Hid (over = true → 65536 < T.length) ∧ Hid (Row w1.heap.size u l wr) ∧ Hid (Below w1.heap.size w1 wr))
    (fun sv _ _ _ => strLen sv)
  case atStart =>
    refine ⟨s, s.size, [], [], false, rfl, rfl, Nat.le_refl _, Nat.le_refl _, by simp, ?_, fun _ => rfl, (fun h => by cases h), row_nil _ _, Below.refl _ _⟩
    show told (bs s) = _
    unfold told
    rw [bs_len]
    cases tell s.size (bs s) <;> rfl
  case round =>
    obtain ⟨t, f, l, T, over, rfl, rfl, htf, hts, hll, hT, hF, hO, hrow, hnx⟩ := hrel
    by_cases h0 : t.size = 0
    · have he : t.toList.isEmpty = true := by rw [ByteArray.toList_eq]; show (bs t).isEmpty = true; rw [empty_size h0]; rfl
      have hne : (t.toList != []) = false := by rw [ByteArray.toList_eq]; show (bs t != []) = false; rw [empty_size h0]; rfl
      have hTT : Hid (told (bs s) = some T) := by rw [unhide hT, empty_size h0]; cases f <;> simp [tell, Hid]
      clear h0 hT
      cases over
      · have hlT := unhide hF rfl
        subst hlT
        have P := hide (unhide PO l (unhide hTT) hll)
        clear hO hF
        go_wp2_with fail
        go_ret2
        exact ⟨_, by rw [unhide P]; rfl, by rw [unhide P]; exact row_base (unhide hrow) hs1, (unhide HB1).trans ((unhide hnx).mono hs1)⟩
      · have P := hide (unhide PL T (unhide hTT) (unhide hO rfl))
        clear hO hF
        go_wp2_with fail
        go_ret2
        exact ⟨_, by rw [unhide P]; rfl, by rw [unhide P]; exact row_nil _ _, (unhide HB1).trans ((unhide hnx).mono hs1)⟩
    · have he : t.toList.isEmpty = false := by
        rw [ByteArray.toList_eq]; show (bs t).isEmpty = false
        cases h : bs t with
        | nil => exact absurd (by rw [← bs_len, h]; rfl) h0
        | cons c r => rfl
      obtain ⟨f, rfl⟩ : ∃ f', f = f' + 1 := ⟨f - 1, by omega⟩
      have hT2 : Hid (told (bs s) = ((match thing (bs t) with | none => none | some (l, t) => (tell f t).map (l ++ ·)) : Option Bs).map (T ++ ·)) := by
        rw [unhide hT, tell_step (by rw [bs_len]; exact htf) (by rw [bs_len]; omega)]; exact rfl
      have C := hide (readThing_any w1 b u5 l t wr (unhide HN) (unhide hnx) (unhide hrow) (by omega) (by omega) (by omega))
      have hts0 : 0 < t.size := by omega
      have hsr := (unhide hnx).size
      clear hT h0
      go_wp2_with fail
      refine (unhide C).mono ?_
      rintro e w2 ⟨⟨v2, r, ok, rfl, hh⟩, hb2⟩
      have HB2 : Hid (Below w1.heap.size w1 w2) := (unhide hnx).trans hb2
      clear C hnx hb2 hrow
      rcases hh with ⟨rfl, h3, rfl⟩ | ⟨rfl, x, h3, hr2⟩
      · have P := hide (unhide PF (by rw [unhide hT2, h3]; rfl))
        clear h3 hT2
        go_wp2_with fail
        go_ret2
        exact ⟨_, by rw [unhide P]; rfl, by rw [unhide P]; exact row_nil _ _, (unhide HB1).trans ((unhide HB2).mono hs1)⟩
      · have hrl : r.size < t.size := by have := thing_lt h3; rwa [bs_len, bs_len] at this
        have hxl := thing_len h3
        have hT3 : Hid (told (bs s) = (tell f (bs r)).map ((T ++ x) ++ ·)) := by
          rw [unhide hT2, h3]; simp only
          cases tell f (bs r) <;> simp [Hid]
        clear h3 hT2
        have hO3 : Hid (over = true → 65536 < (T ++ x).length) := fun h => by have := unhide hO h; rw [List.length_append]; omega
        by_cases hov : 65536 < (l ++ x).length
        · obtain ⟨g, cp, rfl⟩ := row_some hr2 (by omega)
          have hov' : (65536 : Int) < ((l ++ x).length : Int) := by omega
          have hlong : Hid (65536 < (T ++ x).length) := by
            cases over
            · rw [← unhide hF rfl]; exact hov
            · exact unhide hO3 rfl
          have hr3 := hide (row_zero hr2)
          obtain ⟨N, hN⟩ : ∃ N, N = (l ++ x).length := ⟨_, rfl⟩
          rw [← hN] at hov'
          rw [← hN]
          clear hr2 hF hO hO3 hov hN
          go_wp2_with fail
          go_roundw
          case rel => exact ⟨r, f, [], T ++ x, true, rfl, rfl, by omega, by omega, by simp, hT3, (fun h => by cases h), fun _ => unhide hlong, hr3, HB2⟩
          case measure => simp [strLen]; omega
        · obtain ⟨a, cp, rfl⟩ := row_slice hr2
          have hov' : ¬ (65536 : Int) < ((l ++ x).length : Int) := by omega
          have hF3 : Hid (over = false → l ++ x = T ++ x) := fun h => by rw [unhide hF h]
          have hr3 := hide hr2
          have hlN : (l ++ x).length ≤ 65536 := by omega
          obtain ⟨L, hL⟩ : ∃ L, L = l ++ x := ⟨_, rfl⟩
          rw [← hL] at hov' hF3 hr3 hlN
          rw [← hL]
          clear hr2 hF hO hov hL
          go_wp2_with fail
          go_roundw
          case rel => exact ⟨r, f, L, T ++ x, over, rfl, rfl, by omega, by omega, hlN, hT3, hF3, hO3, hr3, HB2⟩
          case measure => simp [strLen]; omega
end Go.Proofs.YtjgboecifonjdaaGreatDoor.Se
