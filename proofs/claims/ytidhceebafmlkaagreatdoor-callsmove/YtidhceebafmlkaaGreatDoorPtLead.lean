import Derived.Test.YtidhceebafmlkaaGreatDoorPtTake
import Derived.Deep.LoopGhost
namespace Go.Proofs.YtidhceebafmlkaaGreatDoor.Pt
open Go.RowKit Cu Tr Pm
abbrev tyPlace : TypeId := 99
theorem ba_beq {s : ByteArray} {t : ByteArray} {l : Bs} (hl : bs t = l) : (s.toList == l) = decide (s = t) := by
  rw [ByteArray.toList_eq, Bool.eq_iff_iff]
  simp only [beq_iff_eq, decide_eq_true_eq]
  exact ⟨fun h => ba_ext (h.trans hl.symm), fun h => by rw [h]; exact hl⟩
def dotsP (s : ByteArray) : Bool := decide (s = dot) || decide (s = dots)
set_option maxRecDepth 100000 in
set_option maxHeartbeats 400000 in
theorem isDots_any (s : ByteArray) (w : World) : Calls Tryz.prog 241 #[.string s] w fun e w' => e = .returned (.bool (dotsP s)) ∧ w' = w := by
  have h1 : (s.toList == [46]) = decide (s = dot) := ba_beq rfl
  have h2 : (s.toList == [46, 46]) = decide (s = dots) := ba_beq rfl
  unfold dotsP
  generalize decide (s = dot) = p at *
  generalize decide (s = dots) = q at *
  cases p with
  | true =>
    go_enter Tryz.func241, Tryz.ntmps241
    go_wp2_with fail
    go_ret
    exact ⟨rfl, rfl⟩
  | false =>
    go_enter Tryz.func241, Tryz.ntmps241
    go_wp2_with fail
    go_ret
    exact ⟨ret_b (by simp), rfl⟩
theorem goP_cases {now : Int} {ns : List Nd} {e : Ev} {follow : Bool} {next : Nat → List ByteArray → Bool → Pl × Int} {dirs : Bool} {d : Nat} {s : ByteArray} {l : List ByteArray} (hc : checkP now ns = true) (hd : Dr ns d) :
    (∃ k : Int, (k = 10 ∨ k = 13) ∧ takeP ns e d s = (0, k) ∧ goP ns e follow next dirs d (s :: l) = bad k)
    ∨ (∃ x : Nat, takeP ns e d s = ((x : Int), 0) ∧ Dr ns x ∧ dotsP s = true ∧ goP ns e follow next dirs d (s :: l) = goP ns e follow next dirs x l)
    ∨ (takeP ns e d s = (0, 0) ∧ dotsP s = false ∧ goP ns e follow next dirs d (s :: l) = if l = [] then (⟨d, s, 0, dirs⟩, 0) else bad 6)
    ∨ (∃ m : Nat, takeP ns e d s = ((m : Int), 0) ∧ m < ns.length ∧ dotsP s = false ∧
        (((nd ns m).kind = 1 ∧ goP ns e follow next dirs d (s :: l) = if l ≠ [] ∨ dirs = true then bad 9 else (⟨d, s, m, dirs⟩, 0))
        ∨ ((nd ns m).kind = 2 ∧ Dr ns m ∧ goP ns e follow next dirs d (s :: l) = if l = [] then (⟨d, s, m, dirs⟩, 0) else goP ns e follow next dirs m l)
        ∨ ((nd ns m).kind = 3 ∧ targetP (nd ns m).target = true ∧ goP ns e follow next dirs d (s :: l) = if l ≠ [] ∨ follow = true ∨ dirs = true then next (if begins (nd ns m).target then 1 else d) (partsP (nd ns m).target ++ l) (dirs || (l.isEmpty && ends (nd ns m).target)) else (⟨d, s, m, dirs⟩, 0)))) := by
  unfold takeP
  by_cases h1 : mayP (nd ns d) e 1 = false
  · exact .inl ⟨10, .inl rfl, if_pos h1, by rw [goP, if_pos h1]⟩
  by_cases h2 : 64 < s.size
  · exact .inl ⟨13, .inr rfl, by rw [if_neg h1, if_pos h2], by rw [goP, if_neg h1, if_pos h2]⟩
  by_cases h3 : s = dot
  · exact .inr (.inl ⟨d, by rw [if_neg h1, if_neg h2, if_pos h3], hd, by simp [dotsP, h3], by rw [goP, if_neg h1, if_neg h2, if_pos h3]⟩)
  by_cases h4 : s = dots
  · obtain ⟨p, hp, hdp⟩ := dr_up hc hd
    exact .inr (.inl ⟨p, by rw [if_neg h1, if_neg h2, if_neg h3, if_pos h4, hp], hdp, by simp [dotsP, h4], by rw [goP, if_neg h1, if_neg h2, if_neg h3, if_pos h4, hp, Int.toNat_natCast]⟩)
  have hds : dotsP s = false := by simp [dotsP, h3, h4]
  rcases dr_find hc hd s with h5 | ⟨m, h5, hm1, hmn, hk⟩
  · exact .inr (.inr (.inl ⟨by rw [if_neg h1, if_neg h2, if_neg h3, if_neg h4, h5], hds, by rw [goP, if_neg h1, if_neg h2, if_neg h3, if_neg h4, if_pos h5]⟩))
  have h6 : ¬ ((m : Int) = 0) := by omega
  refine .inr (.inr (.inr ⟨m, by rw [if_neg h1, if_neg h2, if_neg h3, if_neg h4, h5], hmn, hds, ?_⟩))
  rcases hk with hk | hk | ⟨hk, ht⟩
  · refine .inl ⟨hk, ?_⟩
    rw [goP, if_neg h1, if_neg h2, if_neg h3, if_neg h4, h5, if_neg h6, Int.toNat_natCast, if_neg (fun h => by rw [hk] at h; exact absurd h.1 (by decide))]
    by_cases h7 : l ≠ [] ∨ dirs = true
    · rw [if_pos ⟨hk, h7⟩, if_pos h7]
    · rw [if_neg (fun h => h7 h.2), if_neg h7, if_pos (Decidable.byContradiction fun h => h7 (.inl h))]
  · refine .inr (.inl ⟨hk, ⟨by omega, hmn, hk⟩, ?_⟩)
    rw [goP, if_neg h1, if_neg h2, if_neg h3, if_neg h4, h5, if_neg h6, Int.toNat_natCast, if_neg (fun h => by rw [hk] at h; exact absurd h.1 (by decide)), if_neg (fun h => by rw [hk] at h; exact absurd h.1 (by decide))]
  · refine .inr (.inr ⟨hk, ht, ?_⟩)
    rw [goP, if_neg h1, if_neg h2, if_neg h3, if_neg h4, h5, if_neg h6, Int.toNat_natCast]
    by_cases h7 : l ≠ [] ∨ follow = true ∨ dirs = true
    · rw [if_pos ⟨hk, h7⟩, if_pos h7]
    · rw [if_neg (fun h => h7 h.2), if_neg h7, if_neg (fun h => by rw [hk] at h; exact absurd h.1 (by decide)), if_pos (Decidable.byContradiction fun h => h7 (.inl h))]
def NodeR (ns : List Nd) (follow : Bool) (next : Nat → List ByteArray → Bool → Pl × Int) (on : Nat → Pl × Int) (dirs : Bool) (d : Nat) (s : ByteArray) (l : List ByteArray) (x : Nat) (R : Pl × Int) : Prop :=
  ((nd ns x).kind = 2 ∧ dotsP s = true ∧ Dr ns x ∧ R = on x)
  ∨ ((nd ns x).kind = 0 ∧ dotsP s = false ∧ x = 0 ∧ R = if l = [] then (⟨d, s, 0, dirs⟩, 0) else bad 6)
  ∨ ((nd ns x).kind = 1 ∧ dotsP s = false ∧ R = if l ≠ [] ∨ dirs = true then bad 9 else (⟨d, s, x, dirs⟩, 0))
  ∨ ((nd ns x).kind = 2 ∧ dotsP s = false ∧ Dr ns x ∧ R = if l = [] then (⟨d, s, x, dirs⟩, 0) else on x)
  ∨ ((nd ns x).kind = 3 ∧ dotsP s = false ∧ targetP (nd ns x).target = true ∧ R = if l ≠ [] ∨ follow = true ∨ dirs = true then next (if begins (nd ns x).target then 1 else d) (partsP (nd ns x).target ++ l) (dirs || (l.isEmpty && ends (nd ns x).target)) else (⟨d, s, x, dirs⟩, 0))
theorem node_cases {ns : List Nd} {e : Ev} {follow : Bool} {next : Nat → List ByteArray → Bool → Pl × Int} {dirs : Bool} {d : Nat} {s : ByteArray} {l : List ByteArray} {R : Pl × Int} (hz : (nd ns 0).kind = 0) (hn : 0 < ns.length)
    (h : (∃ x : Nat, takeP ns e d s = ((x : Int), 0) ∧ Dr ns x ∧ dotsP s = true ∧ R = goP ns e follow next dirs x l)
    ∨ (takeP ns e d s = (0, 0) ∧ dotsP s = false ∧ R = if l = [] then (⟨d, s, 0, dirs⟩, 0) else bad 6)
    ∨ (∃ m : Nat, takeP ns e d s = ((m : Int), 0) ∧ m < ns.length ∧ dotsP s = false ∧
        (((nd ns m).kind = 1 ∧ R = if l ≠ [] ∨ dirs = true then bad 9 else (⟨d, s, m, dirs⟩, 0))
        ∨ ((nd ns m).kind = 2 ∧ Dr ns m ∧ R = if l = [] then (⟨d, s, m, dirs⟩, 0) else goP ns e follow next dirs m l)
        ∨ ((nd ns m).kind = 3 ∧ targetP (nd ns m).target = true ∧ R = if l ≠ [] ∨ follow = true ∨ dirs = true then next (if begins (nd ns m).target then 1 else d) (partsP (nd ns m).target ++ l) (dirs || (l.isEmpty && ends (nd ns m).target)) else (⟨d, s, m, dirs⟩, 0))))) :
    ∃ x : Nat, takeP ns e d s = ((x : Int), 0) ∧ x < ns.length ∧ NodeR ns follow next (fun y => goP ns e follow next dirs y l) dirs d s l x R := by
  rcases h with ⟨x, h1, h2, h3, h4⟩ | ⟨h1, h2, h3⟩ | ⟨m, h1, h2, h3, h4⟩
  · exact ⟨x, h1, h2.2.1, .inl ⟨h2.2.2, h3, h2, h4⟩⟩
  · exact ⟨0, h1, hn, .inr (.inl ⟨hz, h2, rfl, h3⟩)⟩
  · refine ⟨m, h1, h2, ?_⟩
    rcases h4 with ⟨a, b⟩ | ⟨a, b, c⟩ | ⟨a, b, c⟩
    · exact .inr (.inr (.inl ⟨a, h3, b⟩))
    · exact .inr (.inr (.inr (.inl ⟨a, h3, b, c⟩)))
    · exact .inr (.inr (.inr (.inr ⟨a, h3, b, c⟩)))
abbrev zPlace : Array Value := #[.int .i64 0, .string ⟨#[]⟩, .int .i64 0, .bool false]
structure Ld (w0 W : World) (B P : Nat) (a : Option Addr) (n cap : Nat) (e : Ev) (d : Nat) (dirs : Bool) (pa : Option Addr) (pc : Nat) (ps : List ByteArray) : Prop where
  low : Below w0.heap.size w0 W
  trip : W.heap[B]? = some (.cells (trA a n cap e d (.slice pa ps.length pc) dirs) tyTrip)
  tx : Tx W pa ps.length pc ps
  room : W.heap[P]? = some (.cells zPlace tyPlace)
  leB : w0.heap.size ≤ B
  leP : w0.heap.size ≤ P
theorem Ld.ne {w0 W : World} {B P : Nat} {a : Option Addr} {n cap : Nat} {e : Ev} {d : Nat} {dirs : Bool} {pa : Option Addr} {pc : Nat} {ps : List ByteArray} (h : Ld w0 W B P a n cap e d dirs pa pc ps) : P ≠ B := fun q => by
  have h1 := h.room
  rw [q, h.trip] at h1
  injection h1 with h1
  injection h1 with _ h2 _
  exact absurd h2 (by decide)
theorem Ld.step {w0 W W' : World} {B P : Nat} {a : Option Addr} {n cap : Nat} {e : Ev} {d : Nat} {dirs : Bool} {pa : Option Addr} {pc : Nat} {ps : List ByteArray} (h : Ld w0 W B P a n cap e d dirs pa pc ps) (hb : Below W.heap.size W W') : Ld w0 W' B P a n cap e d dirs pa pc ps :=
  ⟨h.low.trans (hb.mono h.low.size), (hb.block _ (Array.getElem?_eq_some_iff.1 h.trip).1).trans h.trip, h.tx.below hb, (hb.block _ (Array.getElem?_eq_some_iff.1 h.room).1).trans h.room, h.leB, h.leP⟩
theorem Ld.set {w0 W : World} {B P : Nat} {a : Option Addr} {n cap : Nat} {e : Ev} {d : Nat} {dirs : Bool} {pa : Option Addr} {pc : Nat} {ps : List ByteArray} (h : Ld w0 W B P a n cap e d dirs pa pc ps) (x : Nat) : Ld w0 (W.setCell ⟨B, 5, none⟩ (.int .i64 x)) B P a n cap e x dirs pa pc ps :=
  ⟨h.low.setCell (p := ⟨B, 5, none⟩) h.leB _, set_at h.trip x, h.tx.but (But.set W 5 _) h.trip, (heap_setCell_other W ⟨B, 5, none⟩ P _ h.ne).trans h.room, h.leB, h.leP⟩
theorem Ld.turn {w0 W W' : World} {B P : Nat} {a : Option Addr} {n cap : Nat} {e : Ev} {d d' : Nat} {dirs dirs' : Bool} {pa : Option Addr} {pc : Nat} {ps ps' : List ByteArray} (h : Ld w0 W B P a n cap e d dirs pa pc ps) (ht : TurnR B a n cap e d' dirs' ps' W W') : ∃ pa' pc', Ld w0 W' B P a n cap e d' dirs' pa' pc' ps' := by
  obtain ⟨pa', pc', h1, h2⟩ := ht.trip
  exact ⟨pa', pc', ht.but.below h.low h.leB (Nat.le_refl _), h1, h2, (ht.but.block P (Array.getElem?_eq_some_iff.1 h.room).1 h.ne).trans h.room, h.leB, h.leP⟩
theorem Ld.pcells {w0 W : World} {B P : Nat} {a : Option Addr} {n cap : Nat} {e : Ev} {d : Nat} {dirs : Bool} {pa : Option Addr} {pc : Nat} {ps : List ByteArray} (h : Ld w0 W B P a n cap e d dirs pa pc ps) :
    W.cell? ⟨P, 0, none⟩ = some (.int .i64 0) ∧ W.cell? ⟨P, 1, none⟩ = some (.string ⟨#[]⟩) ∧ W.cell? ⟨P, 2, none⟩ = some (.int .i64 0) ∧ W.cell? ⟨P, 3, none⟩ = some (.bool false) ∧ W.frozen? ⟨P, 0, none⟩ = false ∧ W.frozen? ⟨P, 1, none⟩ = false ∧ W.frozen? ⟨P, 2, none⟩ = false ∧ W.frozen? ⟨P, 3, none⟩ = false := by
  refine ⟨?_, ?_, ?_, ?_, ?_, ?_, ?_, ?_⟩
  iterate 4 (rw [cell_of_row _ _ _ _ _ _ h.room]; rfl)
  all_goals simp [World.frozen?, h.room]
theorem txr0 (W : World) (pb po L pc : Nat) : Tx W (if pc = L then some ⟨pb, po, none⟩ else some ⟨pb, po + L, none⟩) 0 (pc - L) [] := ⟨rfl, Nat.zero_le _, by split <;> simp, .inl rfl⟩
theorem txr {W : World} {pb po pc L i : Nat} {ps : List ByteArray} (h : Tx W (some ⟨pb, po, none⟩) ps.length pc ps) (hL : L = ps.length) (hi : i + 1 < L) : Tx W (some ⟨pb, po + (i + 1), none⟩) (L - (i + 1)) (pc - (i + 1)) (ps.drop (i + 1)) := by
  refine ⟨by rw [List.length_drop, hL], by have := h.le; omega, by simp, ?_⟩
  rcases h.cells with h0 | ⟨b, off, e, hb, hc⟩
  · omega
  · obtain ⟨rfl, rfl⟩ : pb = b ∧ po = off := by
      injection e with e
      injection e with e1 e2 _
      exact ⟨e1, e2⟩
    refine .inr ⟨pb, po + (i + 1), rfl, hb, fun j hj => ?_⟩
    rw [Nat.add_assoc, hc (i + 1 + j) (by omega)]
    simp [List.getD, List.getElem?_drop]
theorem set4_drew {N : Nat} {w w' : World} (h : Below N w w') (g : Nat) (hg : N ≤ g) (a0 a1 a2 a3 : Value) : Below N w ((((w'.setCell ⟨g, 0, none⟩ a0).setCell ⟨g, 1, none⟩ a1).setCell ⟨g, 2, none⟩ a2).setCell ⟨g, 3, none⟩ a3).drew := by
  have q := (((h.setCell (p := ⟨g, 0, none⟩) hg a0).setCell (p := ⟨g, 1, none⟩) hg a1).setCell (p := ⟨g, 2, none⟩) hg a2).setCell (p := ⟨g, 3, none⟩) hg a3
  exact ⟨q.os, q.tape, q.output, q.size, q.block⟩
theorem set4_below {N : Nat} {w w' : World} (h : Below N w w') (g : Nat) (hg : N ≤ g) (a0 a1 a2 a3 : Value) : Below N w ((((w'.setCell ⟨g, 0, none⟩ a0).setCell ⟨g, 1, none⟩ a1).setCell ⟨g, 2, none⟩ a2).setCell ⟨g, 3, none⟩ a3) :=
  (((h.setCell (p := ⟨g, 0, none⟩) hg _).setCell (p := ⟨g, 1, none⟩) hg _).setCell (p := ⟨g, 2, none⟩) hg _).setCell (p := ⟨g, 3, none⟩) hg _
set_option maxRecDepth 100000 in
set_option maxHeartbeats 2000000 in
theorem lead_any (now : Int) (w0 : World) (B : Nat) (a : Option Addr) (n cap : Nat) (ns : List Nd) (e : Ev) (d : Nat) (dirs : Bool) (pa : Option Addr) (pc : Nat) (ps : List ByteArray) (follow : Bool) (w : World) (hg : Ng w0 a n cap ns) (hc : checkP now ns = true) (hd : Dr ns d)
    (hlow : Below w0.heap.size w0 w) (hB0 : w0.heap.size ≤ B) (htrip : w.heap[B]? = some (.cells (trA a n cap e d (.slice pa ps.length pc) dirs) tyTrip)) (htx : Tx w pa ps.length pc ps) (hps : ps.length ≤ 2000) :
    Calls Tryz.prog 184 #[.pointer (some ⟨B, 0, none⟩), .bool follow] w fun r w' => r = .returned (.tuple #[.agg (pv (leadP ns e follow 17 d ps dirs).1), .int .i64 (leadP ns e follow 17 d ps dirs).2]) ∧ Below w0.heap.size w0 w' := by
  obtain ⟨R, HR⟩ : ∃ R, Hid (R = leadP ns e follow 17 d ps dirs) := ⟨_, rfl⟩
  rw [← uh HR]
  have hlen := hg.len
  have hn0 : 0 < n := by rw [← hlen]; have := hd.2.1; omega
  obtain ⟨nb, no, rfl, hnb, hcs⟩ : ∃ b off, a = some ⟨b, off, none⟩ ∧ b < w0.heap.size ∧ ∀ i, i < n → Nx w0 b (off + i * 10) (nd ns i) := by
    rcases hg.cells with h0 | ⟨b, off, h1, h2, h3⟩
    · omega
    · exact ⟨b, off, h1, h2, h3⟩
  have HKd : Hid (∀ (W : World) (x : Nat), Below w0.heap.size w0 W → x < n → W.cell? ⟨nb, no + x * 10, none⟩ = some (.int .u8 (nd ns x).kind.toNat) ∧ W.cell? ⟨nb, no + x * 10 + 7, none⟩ = some (.string (nd ns x).target)) := fun W x hW hx => by
    obtain ⟨_, _, _, _, q, _, _⟩ := (hcs x hx).below hnb hW
    exact ⟨q.c0, q.c7⟩
  have HN := hide hlen
  have HN0 : Hid (0 < ns.length) := by show 0 < _; rw [hlen]; exact hn0
  have HZ : Hid ((nd ns 0).kind = 0) := (checkP_parts hc).2.2.1
  clear hcs hlen hnb
  have HG := hide hg
  have HK := hide hc
  have HD := hide hd
  have HL0 : Hid (Ld w0 (w.alloc (.cells zPlace tyPlace)) B w.heap.size (some ⟨nb, no, none⟩) n cap e d dirs pa pc ps) := by
    have h0 : Below w.heap.size w (w.alloc (.cells zPlace tyPlace)) := (Below.refl _ _).alloc (Nat.le_refl _) _
    exact ⟨hlow.trans (h0.mono hlow.size), (h0.block _ (Array.getElem?_eq_some_iff.1 htrip).1).trans htrip, htx.below h0, heap_alloc_new w _, hB0, hlow.size⟩
  have HLE := hide hlow.size
  clear hg hc hd hlow htrip htx
  go_enter Tryz.func184, Tryz.ntmps184
  go_wp2_with fail
  obtain ⟨P, hP⟩ : ∃ P, P = w.heap.size := ⟨_, rfl⟩
  rw [← hP] at HL0 ⊢
  obtain ⟨w1, hw1⟩ : ∃ w1, w1 = w.alloc (.cells zPlace tyPlace) := ⟨_, rfl⟩
  rw [← hw1] at HL0 ⊢
  clear hP hw1 hB0 HLE
  go_step3
  go_wp2_with fail
  go_step3
  go_wp2_with fail
  go_loopg [13] 17 (fun m x wr => ∃ (k d : Nat) (dirs : Bool) (pa : Option Addr) (pc : Nat) (ps : List ByteArray), k + m = 17 ∧ x = .int .i64 k ∧ ps.length ≤ 2000 * (k + 1) ∧ Hid (Ld w0 wr B P (some ⟨nb, no, none⟩) n cap e d dirs pa pc ps) ∧ Hid (Dr ns d) ∧ Hid (R = leadP ns e follow m d ps dirs))
  case atStart => exact ⟨0, d, dirs, pa, pc, ps, rfl, rfl, by omega, HL0, HD, HR⟩
  case round =>
    clear HL0 HD HR
    obtain ⟨k, d, dirs, pa, pc, ps, hkm, rfl, hps, HL, HD, HR⟩ := hrel
    cases gk with
    | zero =>
      obtain rfl : k = 17 := by omega
      have hR : R = (pz, 12) := uh HR
      subst hR
      obtain ⟨d0, d1, d2, d3, f0, f1, f2, f3⟩ := (uh HL).pcells
      have HF := hide (set4_below (uh HL).low P (uh HL).leP (.int .i64 0) (.string ⟨#[]⟩) (.int .i64 0) (.bool false))
      clear HL HD HR
      go_wp2_with fail
      try rw [Exit.noGoto_ret]
      refine bodyPost_ret (v := .tuple #[.agg (pv pz), .int .i64 12]) (by simp [results, Tryz.results184, go_sem, d0, d1, d2, d3]) rfl ⟨rfl, uh HF⟩
    | succ m =>
      have hk17 : (k : Int) < 17 := by omega
      have c6 := (trip_cells (uh HL).trip).2.2.2.2.2.2.1
      have HL2 := hide (uh HL).tx.len
      have HRg : Hid (R = goP ns e follow (leadP ns e follow m) dirs d (ps.drop 0)) := uh HR
      clear HR
      obtain ⟨L, hL⟩ : ∃ L, L = ps.length := ⟨_, rfl⟩
      rw [← hL] at c6 hps
      have HLn := hide hL
      clear hL HL2
      go_wp2_with fail
      clear c6
      go_loopg [20] L (fun r x wy => ∃ (i d : Nat), i + r = L ∧ x = .int .i64 i ∧ Hid (Ld w0 wy B P (some ⟨nb, no, none⟩) n cap e d dirs pa pc ps) ∧ Hid (Dr ns d) ∧ Hid (R = goP ns e follow (leadP ns e follow m) dirs d (ps.drop i)))
      case atStart => exact ⟨0, d, by omega, rfl, HL, HD, HRg⟩
      case round =>
        clear HL HD HRg
        obtain ⟨i, d, hir, rfl, HL, HD, HR⟩ := hrel
        have hc8 := trip_cells (uh HL).trip
        have c0 := hc8.1
        have c5 := hc8.2.2.2.2.2.1
        have c6 := hc8.2.2.2.2.2.2.1
        have c7 := hc8.2.2.2.2.2.2.2
        rw [← uh HLn] at c6
        clear hc8
        cases gk with
        | zero =>
          obtain rfl : i = L := by omega
          obtain ⟨d0, d1, d2, d3, f0, f1, f2, f3⟩ := (uh HL).pcells
          have hR : R = (⟨d, ⟨#[]⟩, d, dirs⟩, 0) := by rw [uh HR, List.drop_of_length_le (by rw [← uh HLn]; exact Nat.le_refl _)]; rfl
          subst hR
          have HF := hide (set4_drew (uh HL).low P (uh HL).leP (.int .i64 d) (.string ⟨#[]⟩) (.int .i64 d) (.bool dirs))
          have hPB := (uh HL).ne
          clear HL HD HR
          go_wp2_with fail
          go_region
          go_wp2_with fail
          try rw [Exit.noGoto_ret]
          refine bodyPost_ret (v := .tuple #[.agg #[.int .i64 d, .string ⟨#[]⟩, .int .i64 d, .bool dirs], .int .i64 0]) (by simp [results, Tryz.results184, go_sem, d0, d1, d2, d3]) rfl ⟨rfl, uh HF⟩
        | succ r =>
          have hiL : i < L := by omega
          have hiL' : (i : Int) < (L : Int) := by omega
          obtain ⟨pb, po, hpa, hpt, hpx⟩ : ∃ b off, pa = some ⟨b, off, none⟩ ∧ (∃ cur, wr.heap[b]? = some (.cells cur tyStr (0, 0))) ∧ wr.cell? ⟨b, off + i, none⟩ = some (.string (ps.getD i ByteArray.empty)) := by
            rcases (uh HL).tx.cells with h0 | ⟨b, off, h1, h2, h3⟩
            · have := uh HLn; omega
            · exact ⟨b, off, h1, h2, h3 i (by rw [← uh HLn]; exact hiL)⟩
          have hpc := (uh HL).tx.le
          rw [← uh HLn] at hpc
          have hdrop : ps.drop i = ps.getD i ByteArray.empty :: ps.drop (i + 1) := by
            rw [List.drop_eq_getElem_cons (by rw [← uh HLn]; exact hiL)]
            simp [List.getD, List.getElem?_eq_getElem (show i < ps.length by rw [← uh HLn]; exact hiL)]
          rw [hdrop] at HR
          obtain ⟨s, hs⟩ : ∃ s, s = ps.getD i ByteArray.empty := ⟨_, rfl⟩
          rw [← hs] at hpx HR
          clear hs hdrop
          have HT := hide (take_any now B (some ⟨nb, no, none⟩) n cap ns e d (.slice pa ps.length pc) dirs s wr (uh HL).trip ((uh HG).below (uh HL).low) (uh HK) (uh HD))
          subst hpa
          have hcase := goP_cases (e := e) (follow := follow) (next := leadP ns e follow m) (dirs := dirs) (s := s) (l := ps.drop (i + 1)) (uh HK) (uh HD)
          rw [← uh HR] at hcase
          have hl0 : Hid (ps.drop (i + 1) = [] ↔ i + 1 = L) := by
            show _ ↔ _
            rw [List.drop_eq_nil_iff, ← uh HLn]; omega
          clear HR
          rcases hcase with ⟨z, hz, hT, hR⟩ | hcase
          · rw [hT] at HT
            subst hR
            go_wp2_with fail
            refine (uh HT).mono ?_
            rintro r0 w2 ⟨rfl, hb2⟩
            have HL2 := hide ((uh HL).step hb2)
            clear HL HT hb2 c0 c5 c6 c7 hpx hT
            rcases hz with rfl | rfl
            · obtain ⟨d0, d1, d2, d3, f0, f1, f2, f3⟩ := (uh HL2).pcells
              have HF := hide (set4_below (uh HL2).low P (uh HL2).leP (.int .i64 0) (.string ⟨#[]⟩) (.int .i64 0) (.bool false))
              clear HL2
              go_wp2_with fail
              try rw [Exit.noGoto_ret]
              refine bodyPost_ret (v := .tuple #[.agg (pv pz), .int .i64 10]) (by simp [results, Tryz.results184, go_sem, d0, d1, d2, d3]) rfl ⟨rfl, uh HF⟩
            · obtain ⟨d0, d1, d2, d3, f0, f1, f2, f3⟩ := (uh HL2).pcells
              have HF := hide (set4_below (uh HL2).low P (uh HL2).leP (.int .i64 0) (.string ⟨#[]⟩) (.int .i64 0) (.bool false))
              clear HL2
              go_wp2_with fail
              try rw [Exit.noGoto_ret]
              refine bodyPost_ret (v := .tuple #[.agg (pv pz), .int .i64 13]) (by simp [results, Tryz.results184, go_sem, d0, d1, d2, d3]) rfl ⟨rfl, uh HF⟩
          obtain ⟨x, hT, hxn, hdo⟩ : ∃ x : Nat, takeP ns e d s = ((x : Int), 0) ∧ x < n ∧ NodeR ns follow (leadP ns e follow m) (fun y => goP ns e follow (leadP ns e follow m) dirs y (ps.drop (i + 1))) dirs d s (ps.drop (i + 1)) x R := by
            rw [← uh HN]
            exact node_cases (uh HZ) (uh HN0) hcase
          clear hcase
          rw [hT] at HT
          go_wp2_with fail
          refine (uh HT).mono ?_
          rintro r0 w2 ⟨rfl, hb2⟩
          have HL2 := hide ((uh HL).step hb2)
          clear HL HT hb2 c0 c5 c6 c7 hpx hT
          have hc8 := trip_cells (uh HL2).trip
          have c0 := hc8.1
          have c5 := hc8.2.2.2.2.2.1
          have c6 := hc8.2.2.2.2.2.2.1
          have c7 := hc8.2.2.2.2.2.2.2
          have f5 := trip_frozen (uh HL2).trip 5
          rw [← uh HLn] at c6
          have hkc := uh HKd w2 x (uh HL2).low hxn
          have ck := hkc.1
          have ct := hkc.2
          clear hc8 hkc
          have HI := hide (fun W => isDots_any s W)
          obtain ⟨z, hz⟩ : ∃ z : Int, z = (((nd ns x).kind.toNat : Nat) : Int) := ⟨_, rfl⟩
          rw [← hz] at ck
          have HZ2 := hide hz
          clear hz
          obtain ⟨tg, htg⟩ : ∃ tg, tg = (nd ns x).target := ⟨_, rfl⟩
          rw [← htg] at ct
          have HTg := hide htg
          clear htg
          have HDd := HD
          by_cases hq : i + 1 = L
          · have hle : ps.drop (i + 1) = [] := (uh hl0).2 hq
            rw [hle] at hdo
            have HX0 := hide (txr0 w2 pb po L pc)
            have HLn3 : Hid ((partsP tg ++ []).length ≤ 2000 * (k + 1 + 1) ∨ ¬ tg.size ≤ 1024) := by
              show _ ∨ _
              by_cases ht : tg.size ≤ 1024
              · left; rw [List.append_nil]; have := parts_len tg; omega
              · exact .inr ht
            go_upto_region 12 with fail
            obtain ⟨ra, hra⟩ : ∃ ra, ra = (if pc = L then some (⟨pb, po, none⟩ : Addr) else some ⟨pb, po + L, none⟩) := ⟨_, rfl⟩
            rw [← hra] at HX0 ⊢
            clear hra
            generalize pc - L = rc at *
            rcases hdo with ⟨hk, hdt, hx, hR⟩ | ⟨hk, hdt, hx0, hR⟩ | ⟨hk, hdt, hR⟩ | ⟨hk, hdt, hx, hR⟩ | ⟨hk, hdt, htt, hR⟩
            · obtain rfl : z = 2 := by rw [uh HZ2, hk]; rfl
              rw [hdt] at HI
              clear hk hdt HZ2
              have HX := hide hx
              have HR2 : Hid (R = goP ns e follow (leadP ns e follow m) dirs x (ps.drop (i + 1))) := by show R = _; rw [hle]; exact hR
              clear hx hR
              have HL3 := hide ((uh HL2).set x)
              clear HL2
              go_wp2_with (go_at_call 241; refine (uh HI _).mono ?_; rintro r1 w3 ⟨rfl, hw⟩; rw [hw]; clear hw w3)
              go_roundg r
              case measure => omega
              case rel => exact ⟨i + 1, x, by omega, by go_num, HL3, HX, HR2⟩
            · obtain rfl : z = 0 := by rw [uh HZ2, hk]; rfl
              rw [hdt] at HI
              clear hk hdt HZ2
              obtain rfl : R = (⟨d, s, x, dirs⟩, 0) := by rw [hR, if_pos rfl, hx0]; rfl
              clear hR hx0
              obtain ⟨d0, d1, d2, d3, f0, f1, f2, f3⟩ := (uh HL2).pcells
              have HF := hide (set4_drew (uh HL2).low P (uh HL2).leP (.int .i64 d) (.string s) (.int .i64 x) (.bool dirs))
              have hPB := (uh HL2).ne
              clear HL2
              go_wp2_with (go_at_call 241; refine (uh HI _).mono ?_; rintro r1 w3 ⟨rfl, hw⟩; rw [hw]; clear hw w3)
              go_region
              go_wp2_with fail
              try rw [Exit.noGoto_ret]
              refine bodyPost_ret (v := .tuple #[.agg #[.int .i64 d, .string s, .int .i64 x, .bool dirs], .int .i64 0]) (by simp [results, Tryz.results184, go_sem, d0, d1, d2, d3]) rfl ⟨rfl, uh HF⟩
            · obtain rfl : z = 1 := by rw [uh HZ2, hk]; rfl
              rw [hdt] at HI
              clear hk hdt HZ2
              cases dirs with
              | true =>
                obtain rfl : R = bad 9 := by rw [hR, if_pos (.inr rfl)]
                clear hR
                obtain ⟨d0, d1, d2, d3, f0, f1, f2, f3⟩ := (uh HL2).pcells
                have HF := hide (set4_below (uh HL2).low P (uh HL2).leP (.int .i64 0) (.string ⟨#[]⟩) (.int .i64 0) (.bool false))
                clear HL2
                go_wp2_with fail
                try rw [Exit.noGoto_ret]
                refine bodyPost_ret (v := .tuple #[.agg (pv pz), .int .i64 9]) (by simp [results, Tryz.results184, go_sem, d0, d1, d2, d3]) rfl ⟨rfl, uh HF⟩
              | false =>
                obtain rfl : R = (⟨d, s, x, false⟩, 0) := by rw [hR, if_neg (by simp)]
                clear hR
                obtain ⟨d0, d1, d2, d3, f0, f1, f2, f3⟩ := (uh HL2).pcells
                have HF := hide (set4_drew (uh HL2).low P (uh HL2).leP (.int .i64 d) (.string s) (.int .i64 x) (.bool false))
                have hPB := (uh HL2).ne
                clear HL2
                go_wp2_with (go_at_call 241; refine (uh HI _).mono ?_; rintro r1 w3 ⟨rfl, hw⟩; rw [hw]; clear hw w3)
                go_region
                go_wp2_with fail
                try rw [Exit.noGoto_ret]
                refine bodyPost_ret (v := .tuple #[.agg #[.int .i64 d, .string s, .int .i64 x, .bool false], .int .i64 0]) (by simp [results, Tryz.results184, go_sem, d0, d1, d2, d3]) rfl ⟨rfl, uh HF⟩
            · obtain rfl : z = 2 := by rw [uh HZ2, hk]; rfl
              rw [hdt] at HI
              clear hk hdt HZ2
              obtain rfl : R = (⟨d, s, x, dirs⟩, 0) := by rw [hR, if_pos rfl]
              clear hR hx
              obtain ⟨d0, d1, d2, d3, f0, f1, f2, f3⟩ := (uh HL2).pcells
              have HF := hide (set4_drew (uh HL2).low P (uh HL2).leP (.int .i64 d) (.string s) (.int .i64 x) (.bool dirs))
              have hPB := (uh HL2).ne
              clear HL2
              go_wp2_with (go_at_call 241; refine (uh HI _).mono ?_; rintro r1 w3 ⟨rfl, hw⟩; rw [hw]; clear hw w3)
              go_region
              go_wp2_with fail
              try rw [Exit.noGoto_ret]
              refine bodyPost_ret (v := .tuple #[.agg #[.int .i64 d, .string s, .int .i64 x, .bool dirs], .int .i64 0]) (by simp [results, Tryz.results184, go_sem, d0, d1, d2, d3]) rfl ⟨rfl, uh HF⟩
            · obtain rfl : z = 3 := by rw [uh HZ2, hk]; rfl
              rw [hdt] at HI
              clear hk hdt HZ2
              cases dirs with
              | true =>
                have HTn := hide (turn_any B (some ⟨nb, no, none⟩) n cap e d (.slice (some ⟨pb, po, none⟩) ps.length pc) true tg ra 0 rc [] w2 (uh HL2).trip (uh HX0) (by have := target_le htt; rw [← uh HTg] at this; omega) (by omega))
                have HD3 : Hid (Dr ns (if begins tg then 1 else d)) := by
                  show Dr ns _
                  split
                  · exact dr_root (uh HK)
                  · exact uh HDd
                replace HLn3 := hide ((uh HLn3).resolve_right (fun h => h (by have := target_le htt; rw [← uh HTg] at this; exact this.2)))
                have HR3 : Hid (R = leadP ns e follow m (if begins tg then 1 else d) (partsP tg ++ []) (true || (([] : List ByteArray).isEmpty && ends tg))) := by
                  show R = _
                  rw [uh HTg, hR, if_pos (.inr (.inr rfl))]
                clear htt hR
                go_wp2_with fail
                refine (uh HTn).mono ?_
                rintro r1 w3 ⟨rfl, ht3⟩
                obtain ⟨pa3, pc3, h3⟩ := (uh HL2).turn ht3
                have HL3 := hide h3
                clear ht3 h3 HL2
                go_wp2_with fail
                go_roundg m
                case measure => omega
                case rel => exact ⟨k + 1, _, _, pa3, pc3, _, by omega, by go_num, uh HLn3, HL3, HD3, HR3⟩
              | false =>
                cases follow with
                | true =>
                  have HTn := hide (turn_any B (some ⟨nb, no, none⟩) n cap e d (.slice (some ⟨pb, po, none⟩) ps.length pc) false tg ra 0 rc [] w2 (uh HL2).trip (uh HX0) (by have := target_le htt; rw [← uh HTg] at this; omega) (by omega))
                  have HD3 : Hid (Dr ns (if begins tg then 1 else d)) := by
                    show Dr ns _
                    split
                    · exact dr_root (uh HK)
                    · exact uh HDd
                  replace HLn3 := hide ((uh HLn3).resolve_right (fun h => h (by have := target_le htt; rw [← uh HTg] at this; exact this.2)))
                  have HR3 : Hid (R = leadP ns e true m (if begins tg then 1 else d) (partsP tg ++ []) (false || (([] : List ByteArray).isEmpty && ends tg))) := by
                    show R = _
                    rw [uh HTg, hR, if_pos (.inr (.inl rfl))]
                  clear htt hR
                  go_wp2_with fail
                  refine (uh HTn).mono ?_
                  rintro r1 w3 ⟨rfl, ht3⟩
                  obtain ⟨pa3, pc3, h3⟩ := (uh HL2).turn ht3
                  have HL3 := hide h3
                  clear ht3 h3 HL2
                  go_wp2_with fail
                  go_roundg m
                  case measure => omega
                  case rel => exact ⟨k + 1, _, _, pa3, pc3, _, by omega, by go_num, uh HLn3, HL3, HD3, HR3⟩
                | false =>
                  obtain rfl : R = (⟨d, s, x, false⟩, 0) := by rw [hR, if_neg (by simp)]
                  clear hR htt
                  obtain ⟨d0, d1, d2, d3, f0, f1, f2, f3⟩ := (uh HL2).pcells
                  have HF := hide (set4_drew (uh HL2).low P (uh HL2).leP (.int .i64 d) (.string s) (.int .i64 x) (.bool false))
                  have hPB := (uh HL2).ne
                  clear HL2
                  go_wp2_with (go_at_call 241; refine (uh HI _).mono ?_; rintro r1 w3 ⟨rfl, hw⟩; rw [hw]; clear hw w3)
                  go_region
                  go_wp2_with fail
                  try rw [Exit.noGoto_ret]
                  refine bodyPost_ret (v := .tuple #[.agg #[.int .i64 d, .string s, .int .i64 x, .bool false], .int .i64 0]) (by simp [results, Tryz.results184, go_sem, d0, d1, d2, d3]) rfl ⟨rfl, uh HF⟩
          · have hle : ps.drop (i + 1) ≠ [] := fun h => hq ((uh hl0).1 h)
            have hq' : i + 1 < L := by omega
            have HX0 := hide (txr (uh HL2).tx (uh HLn) hq')
            have HLn3 : Hid ((partsP tg ++ ps.drop (i + 1)).length ≤ 2000 * (k + 1 + 1) ∨ ¬ tg.size ≤ 1024) := by
              show _ ∨ _
              by_cases ht : tg.size ≤ 1024
              · left; rw [List.length_append, List.length_drop, ← uh HLn]; have := parts_len tg; omega
              · exact .inr ht
            go_upto_region 12 with fail
            obtain ⟨rn, hrn⟩ : ∃ rn, rn = L - (i + 1) := ⟨_, rfl⟩
            have hrl : rn ≤ 100000 := by omega
            have hrp : 0 < rn := by omega
            have hrz : ((rn : Int) == 0) = false := by simp; omega
            rw [← hrn] at HX0 ⊢
            clear hrn
            generalize pc - (i + 1) = rc at *
            rcases hdo with ⟨hk, hdt, hx, hR⟩ | ⟨hk, hdt, hx0, hR⟩ | ⟨hk, hdt, hR⟩ | ⟨hk, hdt, hx, hR⟩ | ⟨hk, hdt, htt, hR⟩
            · obtain rfl : z = 2 := by rw [uh HZ2, hk]; rfl
              rw [hdt] at HI
              clear hk hdt HZ2
              have HX := hide hx
              have HR2 : Hid (R = goP ns e follow (leadP ns e follow m) dirs x (ps.drop (i + 1))) := hR
              clear hx hR hle
              have HL3 := hide ((uh HL2).set x)
              clear HL2
              go_wp2_with fail
              go_roundg r
              case measure => omega
              case rel => exact ⟨i + 1, x, by omega, by go_num, HL3, HX, HR2⟩
            · obtain rfl : z = 0 := by rw [uh HZ2, hk]; rfl
              rw [hdt] at HI
              clear hk hdt HZ2
              obtain rfl : R = bad 6 := by rw [hR, if_neg hle]
              clear hR hx0 hle
              obtain ⟨d0, d1, d2, d3, f0, f1, f2, f3⟩ := (uh HL2).pcells
              have HF := hide (set4_below (uh HL2).low P (uh HL2).leP (.int .i64 0) (.string ⟨#[]⟩) (.int .i64 0) (.bool false))
              clear HL2
              go_wp2_with fail
              try rw [Exit.noGoto_ret]
              refine bodyPost_ret (v := .tuple #[.agg (pv pz), .int .i64 6]) (by simp [results, Tryz.results184, go_sem, d0, d1, d2, d3]) rfl ⟨rfl, uh HF⟩
            · obtain rfl : z = 1 := by rw [uh HZ2, hk]; rfl
              rw [hdt] at HI
              clear hk hdt HZ2
              obtain rfl : R = bad 9 := by rw [hR, if_pos (.inl hle)]
              clear hR hle
              obtain ⟨d0, d1, d2, d3, f0, f1, f2, f3⟩ := (uh HL2).pcells
              have HF := hide (set4_below (uh HL2).low P (uh HL2).leP (.int .i64 0) (.string ⟨#[]⟩) (.int .i64 0) (.bool false))
              clear HL2
              go_wp2_with fail
              try rw [Exit.noGoto_ret]
              refine bodyPost_ret (v := .tuple #[.agg (pv pz), .int .i64 9]) (by simp [results, Tryz.results184, go_sem, d0, d1, d2, d3]) rfl ⟨rfl, uh HF⟩
            · obtain rfl : z = 2 := by rw [uh HZ2, hk]; rfl
              rw [hdt] at HI
              clear hk hdt HZ2
              have HX := hide hx
              have HR2 : Hid (R = goP ns e follow (leadP ns e follow m) dirs x (ps.drop (i + 1))) := by show R = _; rw [hR, if_neg hle]
              clear hx hR hle
              have HL3 := hide ((uh HL2).set x)
              clear HL2
              go_wp2_with fail
              go_roundg r
              case measure => omega
              case rel => exact ⟨i + 1, x, by omega, by go_num, HL3, HX, HR2⟩
            · obtain rfl : z = 3 := by rw [uh HZ2, hk]; rfl
              rw [hdt] at HI
              clear hk hdt HZ2
              have HTn := hide (turn_any B (some ⟨nb, no, none⟩) n cap e d (.slice (some ⟨pb, po, none⟩) ps.length pc) dirs tg (some ⟨pb, po + (i + 1), none⟩) rn rc (ps.drop (i + 1)) w2 (uh HL2).trip (uh HX0) (by have := target_le htt; rw [← uh HTg] at this; omega) (by omega))
              have HD3 : Hid (Dr ns (if begins tg then 1 else d)) := by
                show Dr ns _
                split
                · exact dr_root (uh HK)
                · exact uh HDd
              replace HLn3 := hide ((uh HLn3).resolve_right (fun h => h (by have := target_le htt; rw [← uh HTg] at this; exact this.2)))
              have HR3 : Hid (R = leadP ns e follow m (if begins tg then 1 else d) (partsP tg ++ (ps.drop (i + 1))) (dirs || (((ps.drop (i + 1)) : List ByteArray).isEmpty && ends tg))) := by
                show R = _
                rw [uh HTg, hR, if_pos (.inl hle)]
              clear htt hR
              clear hle
              go_wp2_with fail
              refine (uh HTn).mono ?_
              rintro r1 w3 ⟨rfl, ht3⟩
              obtain ⟨pa3, pc3, h3⟩ := (uh HL2).turn ht3
              have HL3 := hide h3
              clear ht3 h3 HL2
              go_wp2_with fail
              go_roundg m
              case measure => omega
              case rel => exact ⟨k + 1, _, _, pa3, pc3, _, by omega, by go_num, uh HLn3, HL3, HD3, HR3⟩
end Go.Proofs.YtidhceebafmlkaaGreatDoor.Pt
