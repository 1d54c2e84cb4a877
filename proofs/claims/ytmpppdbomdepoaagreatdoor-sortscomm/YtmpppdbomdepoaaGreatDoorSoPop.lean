/- What container/heap's up, Init, Pop and Push do to a heap that lies behind an interface. -/
import Derived.Test.YtmpppdbomdepoaaGreatDoorSoDown
namespace Go.Proofs.YtmpppdbomdepoaaGreatDoor.So
open Go.RowKit Go.Shelf Ky

attribute [local go_sem] Oper.semAt_some

set_option maxRecDepth 100000 in
set_option maxHeartbeats 2000000 in
theorem up_any {α : Type} {T : TypeId} {p : Addr} {S : World → List α → Prop} {c : α → α → Int} {d : α} (H : Pile T p S c d) (g : Ky.Good c) (l : List α) (j0 : Nat) (w : World)
    (hS : S w l) (hl : l.length ≤ 65536) (hj : j0 < l.length) (hx : Ux c d l l.length j0) :
    Calls Tryz.prog 124 #[.iface T (.pointer (some p)), .int .i64 j0] w fun e w' => e = .returned (.tuple #[]) ∧ Hid (∃ l', S w' l' ∧ l'.Perm l ∧ Hp c d l' 0 l.length) := by
  obtain ⟨kl, ⟨ml, el⟩, cl⟩ := H.less
  obtain ⟨ks, ⟨ms, es⟩, cs⟩ := H.swap
  have CL := hide cl
  have CS := hide cs
  clear cl cs H
  have hx0 := hide hx
  have hS0 := hide hS
  clear hx hS
  go_enter Tryz.func124, Tryz.ntmps124
  go_wp2_with fail
  go_loopw [1] (fun i wr => ∃ (x : Nat) (l' : List α), x < l.length ∧ i = .int .i64 x ∧ Hid (S wr l') ∧ Hid (l'.Perm l) ∧ Hid (Ux c d l' l.length x)) (fun i _ => (intOf i).toNat)
  case atStart => exact ⟨j0, l, hj, rfl, hS0, .refl _, hx0⟩
  case round =>
    clear hx0 hS0
    obtain ⟨x, l', hxl, rfl, hS, hP, hX⟩ := hrel
    have hll : l'.length = l.length := (unhide hP).length_eq
    obtain ⟨y, hy⟩ : ∃ y, y = (x - 1) / 2 := ⟨_, rfl⟩
    have e1 : ((x : Int) - 1).tdiv 2 = (y : Int) := by
      by_cases h0 : x = 0
      · subst h0; rw [hy]; rfl
      · rw [show ((x : Int) - 1) = ((x - 1 : Nat) : Int) by omega, hy]; rfl
    by_cases h0 : x = 0
    · have hyx : (y : Int) = (x : Int) := by omega
      have hE : Hid (Hp c d l' 0 l.length) := ux_end d l' x l.length (unhide hX) (fun i hi => by unfold Kid at hi; omega)
      clear hX hy h0
      go_wp2_with fail
      go_end0
      exact ⟨rfl, l', unhide hS, unhide hP, unhide hE⟩
    · have hyx : ¬ y = x := by omega
      have hyb : y < l.length := by omega
      have hyk : Kid y x := by unfold Kid; omega
      have CY : Hid (∀ W, S W l' → Calls Tryz.prog kl #[.pointer (some p), .int .i64 x, .int .i64 y] W fun e w' => e = .returned (.bool (decide (c (l'.getD x d) (l'.getD y d) < 0))) ∧ S w' l') := fun W h => unhide CL W l' x y h (by omega) (by omega)
      have HK := hide hyk
      have HY := hide hy
      by_cases hlt : c (l'.getD x d) (l'.getD y d) < 0
      · rw [decide_eq_true hlt] at CY
        have hX' : Hid (Ux c d (swp d l' y x) l.length y) := ux_step g d l' x y l.length (unhide hX) (by omega) hxl hyk hlt
        have hP' : Hid ((swp d l' y x).Perm l) := (swp_perm d l' (by omega) (by omega)).trans (unhide hP)
        have CW : Hid (∀ W, S W l' → Calls Tryz.prog ks #[.pointer (some p), .int .i64 y, .int .i64 x] W fun e w' => e = .returned (.tuple #[]) ∧ S w' (swp d l' y x)) := fun W h => unhide CS W l' y x h (by omega) (by omega)
        clear hX hP hlt hy hyk h0
        go_wp2_with fail
        refine (unhide CY _ (unhide hS)).mono ?_
        rintro e w3 ⟨rfl, s3⟩
        have hS3 := hide s3
        clear s3 CY
        go_wp2_with fail
        refine (unhide CW _ (unhide hS3)).mono ?_
        rintro e w4 ⟨rfl, s4⟩
        have hS4 := hide s4
        clear s4 CW
        go_wp2_with fail
        go_roundw
        case rel => exact ⟨y, swp d l' y x, by have := unhide HK; unfold Kid at this; omega, by go_num, hS4, hP', hX'⟩
        case measure => have := unhide HK; unfold Kid at this; simp [intOf]; omega
      · rw [decide_eq_false hlt] at CY
        have hE : Hid (Hp c d l' 0 l.length) := ux_end d l' x l.length (unhide hX) (fun i hi => by
          have : i = y := by unfold Kid at hi hyk; omega
          subst this
          have := g.tn (l'.getD x d) (l'.getD i d); omega)
        clear hX hlt hy hyk h0
        go_wp2_with fail
        refine (unhide CY _ (unhide hS)).mono ?_
        rintro e w3 ⟨rfl, s3⟩
        have hS3 := hide s3
        clear s3 CY
        go_wp2_with fail
        go_end0
        exact ⟨rfl, l', unhide hS3, unhide hP, unhide hE⟩

set_option maxRecDepth 100000 in
set_option maxHeartbeats 2000000 in
theorem init_any {α : Type} {T : TypeId} {p : Addr} {S : World → List α → Prop} {c : α → α → Int} {d : α} (H : Pile T p S c d) (g : Ky.Good c) (l : List α) (w : World)
    (hS : S w l) (hl : l.length ≤ 65536) :
    Calls Tryz.prog 115 #[.iface T (.pointer (some p))] w fun e w' => e = .returned (.tuple #[]) ∧ Hid (∃ l', S w' l' ∧ l'.Perm l ∧ Hp c d l' 0 l'.length) := by
  obtain ⟨kl, ⟨ml, el⟩, cl⟩ := H.len
  have CL : Hid (∀ W, S W l → Calls Tryz.prog kl #[.pointer (some p)] W fun e w' => e = .returned (.int .i64 l.length) ∧ S w' l) := fun W h => cl W l h
  have CD : Hid (∀ (l' : List α) (i n : Nat) (W : World), S W l' → l'.length ≤ 65536 → n ≤ l'.length → i ≤ n → Hx c d l' i n i → Calls Tryz.prog 125 #[.iface T (.pointer (some p)), .int .i64 i, .int .i64 n] W fun e w' => ∃ v l'', e = .returned v ∧ S w' l'' ∧ l''.Perm l' ∧ Hp c d l'' i n ∧ l''.drop n = l'.drop n) := fun l' i n W a1 a2 a3 a4 a5 => down_any H g l' i n W a1 a2 a3 a4 a5
  have hS0 := hide hS
  clear cl hS H g
  obtain ⟨n, hn⟩ : ∃ n, n = l.length := ⟨_, rfl⟩
  obtain ⟨m, hm⟩ : ∃ m, m = n / 2 := ⟨_, rfl⟩
  have e1 : (n : Int).tdiv 2 = (m : Int) := by rw [hm]; rfl
  rw [← hn] at CL hl
  have hmb : m ≤ 65536 := by omega
  have HN := hide hn
  have HM := hide hm
  clear hn hm
  go_enter Tryz.func115, Tryz.ntmps115
  go_wp2_with fail
  refine (unhide CL _ (unhide hS0)).mono ?_
  rintro e w1 ⟨rfl, s1⟩
  have hS1 := hide s1
  clear s1 CL hS0
  go_wp2_with fail
  go_loopw [3] (fun i wr => ∃ (k : Nat) (l' : List α), k ≤ m ∧ i = .int .i64 ((k : Int) - 1) ∧ Hid (S wr l') ∧ Hid (l'.Perm l) ∧ Hid (Hp c d l' k n)) (fun i _ => (intOf i + 1).toNat)
  case atStart => exact ⟨m, l, Nat.le_refl _, rfl, hS1, .refl _, by rw [unhide HM]; exact hp_half c d l n⟩
  case round =>
    clear hS1
    obtain ⟨k, l', hkm, rfl, hS, hP, hH⟩ := hrel
    have hll : l'.length = n := by rw [(unhide hP).length_eq]; exact (unhide HN).symm
    by_cases hk : k = 0
    · subst hk
      have hE : Hid (Hp c d l' 0 l'.length) := by rw [hll]; exact hH
      clear hH
      go_wp2_with fail
      go_end0
      exact ⟨rfl, l', unhide hS, unhide hP, unhide hE⟩
    · obtain ⟨q, rfl⟩ : ∃ q, k = q + 1 := ⟨k - 1, by omega⟩
      have eq : (((q + 1 : Nat) : Int) - 1) = (q : Int) := by omega
      rw [eq]
      have hmn := unhide HM
      have CX : Hid (∀ W, S W l' → Calls Tryz.prog 125 #[.iface T (.pointer (some p)), .int .i64 q, .int .i64 n] W fun e w' => ∃ v l'', e = .returned v ∧ S w' l'' ∧ l''.Perm l' ∧ Hp c d l'' q n ∧ l''.drop n = l'.drop n) := fun W h => unhide CD l' q n W h (by omega) (by omega) (by omega) (hx_of c d l' q n (unhide hH))
      clear hmn hH eq hk
      go_wp2_with fail
      refine (unhide CX _ (unhide hS)).mono ?_
      rintro e w2 ⟨v, l2, rfl, s2, p2, h2, -⟩
      have hS2 := hide s2
      have hP2 := hide (p2.trans (unhide hP))
      have hH2 := hide h2
      clear s2 p2 h2 CX
      go_wp2_with fail
      go_roundw
      case rel => exact ⟨q, l2, by omega, by go_num, hS2, hP2, hH2⟩
      case measure => simp [intOf]

/-- the first one goes out, the rest is a heap -/
theorem pop_plain {α : Type} {c : α → α → Int} (d : α) (l l2 : List α) (m : Nat) (hm : m + 1 = l.length) (p2 : l2.Perm (swp d l 0 m)) (h2 : Hp c d l2 0 m) (d2 : l2.drop m = (swp d l 0 m).drop m) :
    l2.getD m d = l.getD 0 d ∧ (l.getD 0 d :: l2.take m).Perm l ∧ Hp c d (l2.take m) 0 (l2.take m).length := by
  have hl2 : l2.length = m + 1 := by rw [p2.length_eq, swp_len]; omega
  have e1 : l2.getD m d = l.getD 0 d := by
    have e := congrArg (fun x => x.getD 0 d) d2
    simp only [List.getD_eq_getElem?_getD, List.getElem?_drop, Nat.add_zero] at e
    have q := swp_at d l 0 m m (by omega) (by omega)
    rw [if_pos rfl, List.getD_eq_getElem?_getD] at q
    rw [List.getD_eq_getElem?_getD, e, q]
  refine ⟨e1, ?_, ?_⟩
  · have e3 : l2 = l2.take m ++ [l2.getD m d] := by
      conv => lhs; rw [← List.take_append_drop m l2]
      rw [List.drop_eq_getElem_cons (by omega : m < l2.length), List.drop_eq_nil_of_le (by omega), getD_get d l2 (by omega)]
    have q : (l2.getD m d :: l2.take m).Perm l2 := by
      conv => rhs; rw [e3]
      exact (List.perm_append_singleton _ _).symm
    rw [← e1]
    exact (q.trans p2).trans (swp_perm d l (by omega) (by omega))
  · rw [List.length_take, hl2, show min m (m + 1) = m by omega]
    exact hp_take c d l2 h2

set_option maxRecDepth 100000 in
set_option maxHeartbeats 2000000 in
theorem pop_any {α : Type} {T : TypeId} {p : Addr} {S : World → List α → Prop} {c : α → α → Int} {d : α} {iv : α → Value} (H : Pile T p S c d) (HO : PileOff T p S d iv) (g : Ky.Good c) (l : List α) (w : World)
    (hS : S w l) (hl : l.length ≤ 65536) (h0 : 0 < l.length) (hH : Hp c d l 0 l.length) :
    Calls Tryz.prog 81 #[.iface T (.pointer (some p))] w fun e w' => e = .returned (iv (l.getD 0 d)) ∧ Hid (∃ l', S w' l' ∧ (l.getD 0 d :: l').Perm l ∧ Hp c d l' 0 l'.length) := by
  obtain ⟨kl, ⟨ml, el⟩, cl⟩ := H.len
  obtain ⟨ks, ⟨ms, es⟩, cs⟩ := H.swap
  obtain ⟨kp, ⟨mp, ep⟩, cp⟩ := HO.pop
  obtain ⟨m, hm⟩ : ∃ m, m + 1 = l.length := ⟨l.length - 1, by omega⟩
  have em : (l.length : Int) - 1 = (m : Int) := by omega
  have CL : Hid (∀ W, S W l → Calls Tryz.prog kl #[.pointer (some p)] W fun e w' => e = .returned (.int .i64 l.length) ∧ S w' l) := fun W h => cl W l h
  have CW : Hid (∀ W, S W l → Calls Tryz.prog ks #[.pointer (some p), .int .i64 0, .int .i64 m] W fun e w' => e = .returned (.tuple #[]) ∧ S w' (swp d l 0 m)) := fun W h => cs W l 0 m h (by omega) (by omega)
  have CD : Hid (∀ (W : World), S W (swp d l 0 m) → Calls Tryz.prog 125 #[.iface T (.pointer (some p)), .int .i64 0, .int .i64 m] W fun e w' => ∃ v l'', e = .returned v ∧ S w' l'' ∧ l''.Perm (swp d l 0 m) ∧ Hp c d l'' 0 m ∧ l''.drop m = (swp d l 0 m).drop m) := fun W h => down_any H g (swp d l 0 m) 0 m W h (by rw [swp_len]; exact hl) (by rw [swp_len]; omega) (Nat.zero_le _) (hx_pop c d l m hm (by rw [hm]; exact hH))
  have CP : Hid (∀ (W : World) (l2 : List α), S W l2 → l2.length = m + 1 → Calls Tryz.prog kp #[.pointer (some p)] W fun e w' => e = .returned (iv (l2.getD m d)) ∧ S w' (l2.take m)) := fun W l2 h hl2 => by
    have q := cp W l2 h (by omega)
    rw [hl2, Nat.add_sub_cancel] at q
    exact q
  have hS0 := hide hS
  have HM := hide hm
  clear cl cs cp hS H HO g hH hm h0
  go_enter Tryz.func81, Tryz.ntmps81
  go_wp2_with fail
  refine (unhide CL _ (unhide hS0)).mono ?_
  rintro e w1 ⟨rfl, s1⟩
  have hS1 := hide s1
  clear s1 CL hS0
  go_wp2_with fail
  refine (unhide CW _ (unhide hS1)).mono ?_
  rintro e w2 ⟨rfl, s2⟩
  have hS2 := hide s2
  clear s2 CW hS1
  go_wp2_with fail
  refine (unhide CD _ (unhide hS2)).mono ?_
  rintro e w3 ⟨v, l2, rfl, s3, p3, h3, d3⟩
  have hS3 := hide s3
  have hl2 : Hid (l2.length = m + 1) := by show _ = _; rw [p3.length_eq, swp_len]; exact (unhide HM).symm
  have R := hide (pop_plain (c := c) d l l2 m (unhide HM) p3 h3 d3)
  clear s3 p3 h3 d3 CD hS2
  go_wp2_with fail
  refine (unhide CP _ l2 (unhide hS3) (unhide hl2)).mono ?_
  rintro e w4 ⟨rfl, s4⟩
  have hS4 := hide s4
  clear s4 CP hS3
  go_wp2_with fail
  go_ret
  exact ⟨by rw [← (unhide R).1]; rfl, l2.take m, unhide hS4, (unhide R).2⟩

set_option maxRecDepth 100000 in
set_option maxHeartbeats 2000000 in
theorem push_any {α : Type} {T : TypeId} {p : Addr} {S : World → List α → Prop} {X : World → α → Prop} {c : α → α → Int} {d : α} {iv : α → Value} (H : Pile T p S c d) (HO : PileOn T p S X iv) (g : Ky.Good c) (l : List α) (x : α) (w : World)
    (hS : S w l) (hX : X w x) (hl : l.length < 65536) (hH : Hp c d l 0 l.length) :
    Calls Tryz.prog 79 #[.iface T (.pointer (some p)), iv x] w fun e w' => e = .returned (.tuple #[]) ∧ Hid (∃ l', S w' l' ∧ l'.Perm (x :: l) ∧ Hp c d l' 0 l'.length) := by
  obtain ⟨kl, ⟨ml, el⟩, cl⟩ := H.len
  obtain ⟨kp, ⟨mp, ep⟩, cp⟩ := HO.push
  have CL : Hid (∀ W, S W (l ++ [x]) → Calls Tryz.prog kl #[.pointer (some p)] W fun e w' => e = .returned (.int .i64 ((l.length : Int) + 1)) ∧ S w' (l ++ [x])) := fun W h => by
    have q := cl W _ h
    rw [List.length_append, List.length_singleton, show ((l.length + 1 : Nat) : Int) = (l.length : Int) + 1 by omega] at q
    exact q
  have CP : Hid (Calls Tryz.prog kp #[.pointer (some p), iv x] w fun e w' => e = .returned (.tuple #[]) ∧ S w' (l ++ [x])) := cp w l x hS hX hl
  have CU : Hid (∀ (W : World), S W (l ++ [x]) → Calls Tryz.prog 124 #[.iface T (.pointer (some p)), .int .i64 l.length] W fun e w' => e = .returned (.tuple #[]) ∧ Hid (∃ l', S w' l' ∧ l'.Perm (l ++ [x]) ∧ Hp c d l' 0 (l ++ [x]).length)) := fun W h => up_any H g (l ++ [x]) l.length W h (by simp; omega) (by simp) (by rw [List.length_append]; exact ux_of c d l x hH)
  clear cl cp hS hX H HO g hH
  generalize hv : iv x = v at *
  go_enter Tryz.func79, Tryz.ntmps79
  go_wp2_with fail
  refine (unhide CP).mono ?_
  rintro e w1 ⟨rfl, s1⟩
  have hS1 := hide s1
  clear s1 CP
  go_wp2_with fail
  refine (unhide CL _ (unhide hS1)).mono ?_
  rintro e w2 ⟨rfl, s2⟩
  have hS2 := hide s2
  clear s2 CL hS1
  go_wp2_with fail
  refine (unhide CU _ (unhide hS2)).mono ?_
  rintro e w3 ⟨rfl, s3⟩
  have hS3 := hide s3
  clear s3 CU hS2
  go_wp2_with fail
  go_end0
  obtain ⟨l', a1, a2, a3⟩ := unhide (unhide hS3)
  exact ⟨rfl, l', a1, a2.trans (List.perm_append_singleton _ _), by rw [a2.length_eq]; exact a3⟩
end Go.Proofs.YtmpppdbomdepoaaGreatDoor.So
