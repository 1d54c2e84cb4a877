/- A reader of nodes: where it stands; its parts kind, numbers, data, target, parent. -/
import Derived.Test.YtbofidpoajdcmabCdOwn
import Derived.Deep.RegionWith
namespace Go.Proofs.Ytbofidpoajdcmab.Cd
open Go.RowKit Cu Tr

/-- the cells of a node, in a reader's box -/
structure C10 (w : World) (nb : Nat) (n : Nd) (d e : Value) : Prop where
  cells : ∀ i v, (nA n d e)[i]? = some v → w.cell? ⟨nb, i + 1, none⟩ = some v
  fz : ∀ i, w.frozen? ⟨nb, i, none⟩ = false
  lt : nb < w.heap.size
theorem C10.upd {w w' : World} {nb : Nat} {n n' : Nd} {d e d' e' : Value} {S : List Addr} (J : Nat → Bool) (h : C10 w nb n d e) (F : Fr S w w')
    (hn : ∀ i, i < 10 → J i = false → (⟨nb, i + 1, none⟩ : Addr) ∉ S ∧ (nA n' d' e')[i]? = (nA n d e)[i]?) (hy : ∀ i v, i < 10 → J i = true → (nA n' d' e')[i]? = some v → w'.cell? ⟨nb, i + 1, none⟩ = some v) : C10 w' nb n' d' e' := by
  refine ⟨fun i v hv => ?_, fun i => (F.frozen _ h.lt).trans (h.fz i), Nat.lt_of_lt_of_le h.lt F.size⟩
  have hi : i < 10 := by
    have := (Array.getElem?_eq_some_iff.1 hv).1
    simpa using this
  cases hj : J i with
  | true => exact hy i v hi hj hv
  | false =>
    obtain ⟨h1, h2⟩ := hn i hi hj
    exact (F.cell _ h.lt h1).trans (h.cells i v (h2 ▸ hv))
theorem ten {P : Nat → Prop} (h0 : P 0) (h1 : P 1) (h2 : P 2) (h3 : P 3) (h4 : P 4) (h5 : P 5) (h6 : P 6) (h7 : P 7) (h8 : P 8) (h9 : P 9) : ∀ i, i < 10 → P i := fun i hi => by
  match i, hi with
  | 0, _ => exact h0
  | 1, _ => exact h1
  | 2, _ => exact h2
  | 3, _ => exact h3
  | 4, _ => exact h4
  | 5, _ => exact h5
  | 6, _ => exact h6
  | 7, _ => exact h7
  | 8, _ => exact h8
  | 9, _ => exact h9
abbrev nodeIds : List Nat := [54, 55, 56, 57, 58, 59]
/-- so far as a node is read: what is left to do is g -/
structure Jn (B : Nat) (ws : World) (K rb nb fb : Nat) (l : Bs) (g : RestN) (w : World) : Prop where
  fr : Fr [⟨rb, 0, none⟩] ws w
  fns : Fns w fb nodeIds (rp nb)
  new : ws.heap.size ≤ nb ∧ ws.heap.size ≤ fb ∧ fb ≠ nb ∧ rb < ws.heap.size
  ptr : w.cell? ⟨nb, 0, none⟩ = some (rp rb)
  ex : ∃ n r d e, Rd w K rb r ∧ C10 w nb n d e ∧ Row (nb + 1) d n.data w ∧ RowE (nb + 1) e n.list w ∧ nodeP l = g n r ∧ n.list.length ≤ B
def BadN (ws : World) (rb : Nat) (l : Bs) (w : World) : Prop := Fr [⟨rb, 0, none⟩] ws w ∧ nodeP l = none
/-- places of the node, and the reader's -/
def Pls (rb nb : Nat) (S : List Addr) : Prop := ∀ p ∈ S, p = ⟨rb, 0, none⟩ ∨ (p.block = nb ∧ p.off ≠ 0)
theorem Jn.frn {B : Nat} {ws : World} {K rb nb fb : Nat} {l : Bs} {g : RestN} {w w' : World} {S : List Addr} (h : Jn B ws K rb nb fb l g w) (hf : Fr S w w') (hs : Pls rb nb S) : Fr [⟨rb, 0, none⟩] ws w' :=
  h.fr.off hf (fun p hp => (hs p hp).elim (fun e => .inl (by simp [e])) (fun e => .inr (by have := h.new.1; omega)))
theorem Jn.lts {B : Nat} {ws : World} {K rb nb fb : Nat} {l : Bs} {g : RestN} {w : World} (h : Jn B ws K rb nb fb l g w) : nb < w.heap.size ∧ rb < w.heap.size ∧ rb ≠ nb := by
  obtain ⟨_, _, _, _, hR, hC, _⟩ := h.ex
  exact ⟨hC.lt, hR.lt, by have := h.new; omega⟩
theorem Jn.next {B B' : Nat} {ws : World} {K rb nb fb : Nat} {l : Bs} {g g' : RestN} {w w' : World} {S : List Addr} {n' : Nd} {r' : Bs} {d' e' : Value} (h : Jn B ws K rb nb fb l g w) (hf : Fr S w w') (hs : Pls rb nb S)
    (hR : Rd w' K rb r') (hC : C10 w' nb n' d' e') (hD : Row (nb + 1) d' n'.data w') (hE : RowE (nb + 1) e' n'.list w') (hg : nodeP l = g' n' r') (hbl : n'.list.length ≤ B') : Jn B' ws K rb nb fb l g' w' := by
  obtain ⟨q1, q2, q3, q4⟩ := h.new
  refine ⟨h.frn hf hs, ?_, h.new, ?_, n', r', d', e', hR, hC, hD, hE, hg, hbl⟩
  · refine (hf.block fb (Array.getElem?_eq_some_iff.1 h.fns).1 (fun p hp e => ?_)).trans h.fns
    rcases hs p hp with rfl | h1
    · simp at e; omega
    · omega
  · refine (hf.cell _ h.lts.1 (fun e => ?_)).trans h.ptr
    rcases hs _ e with h1 | h1
    · injection h1 with h1; have := h.lts; omega
    · exact h1.2 rfl
theorem Jn.bad {B : Nat} {ws : World} {K rb nb fb : Nat} {l : Bs} {g : RestN} {w w' : World} {S : List Addr} (h : Jn B ws K rb nb fb l g w) (hf : Fr S w w') (hs : Pls rb nb S) (hg : nodeP l = none) : BadN ws rb l w' := ⟨h.frn hf hs, hg⟩
theorem rowN_same {S : List Addr} {w w' : World} {rb nb : Nat} {v : Value} {l : Bs} (h : Row (nb + 1) v l w) (hf : Fr S w w') (hs : Pls rb nb S) (hr : rb < nb) : Row (nb + 1) v l w' :=
  row_kept h hf (fun k hk p hp => by
    have := row_lo h k hk
    rcases hs p hp with rfl | h1
    · simp; omega
    · omega)
theorem rowE_same {S : List Addr} {w w' : World} {rb nb : Nat} {v : Value} {l : List En} (h : RowE (nb + 1) v l w) (hf : Fr S w w') (hs : Pls rb nb S) (hr : rb < nb) : RowE (nb + 1) v l w' :=
  own_fr9 h hf (fun k hk p hp => by
    have := (own_at9 h k hk).1
    rcases hs p hp with rfl | h1
    · simp; omega
    · omega)
theorem Jn.rlt {B : Nat} {ws : World} {K rb nb fb : Nat} {l : Bs} {g : RestN} {w : World} (h : Jn B ws K rb nb fb l g w) : rb < nb := by have := h.new; omega
theorem Jn.drew {B : Nat} {ws : World} {K rb nb fb : Nat} {l : Bs} {g : RestN} {w : World} (h : Jn B ws K rb nb fb l g w) : Jn B ws K rb nb fb l g w.drew := by
  obtain ⟨n, r, d, e, hR, hC, hD, hE, hg, hbl⟩ := h.ex
  have F : Fr [] w w.drew := (Fr.refl [] w).drew 1
  exact h.next F (by intro p hp; simp at hp) (hR.fr F (by simp) (by simp)) (hC.upd (fun _ => false) F (fun i _ _ => ⟨by simp, rfl⟩) (fun _ _ _ h => by cases h)) (rowN_same (rb := rb) hD F (by intro p hp; simp at hp) h.rlt) (rowE_same (rb := rb) hE F (by intro p hp; simp at hp) h.rlt) hg hbl
theorem TgN {B : Nat} {ws : World} {K rb nb fb : Nat} {l : Bs} {g : RestN} {w : World} {n : Nd} {d e : Value} (h : Jn B ws K rb nb fb l g w) (hC : C10 w nb n d e) (hK : K ≤ rb) {i : Nat} {v : Value} (hv : (nA n d e)[i]? = some v) : Tg w K rb ⟨nb, i + 1, none⟩ v :=
  ⟨hC.cells i v hv, hC.fz _, by have := h.rlt; show K ≤ nb; omega, hC.lt, by simp⟩
/-- what a part answers -/
def PartN (B : Nat) (ws : World) (K rb nb fb : Nat) (l : Bs) (g : RestN) (e : Ending) (w' : World) : Prop := (e = .returned (.bool true) ∧ Jn B ws K rb nb fb l g w') ∨ (e = .returned (.bool false) ∧ BadN ws rb l w')
theorem pls2 (rb nb i : Nat) : Pls rb nb [⟨rb, 0, none⟩, ⟨nb, i + 1, none⟩] := by
  intro p hp
  simp only [List.mem_cons, List.not_mem_nil, or_false] at hp
  rcases hp with rfl | rfl
  · exact .inl rfl
  · exact .inr ⟨rfl, by simp⟩

set_option maxHeartbeats 400000 in
set_option maxRecDepth 100000 in
theorem nkind_any (ws : World) (K rb nb fb : Nat) (l : Bs) (w : World) (h : Jn 0 ws K rb nb fb l n1 w) : Calls Try.prog 54 #[rp nb] w (PartN 0 ws K rb nb fb l n2) := by
  obtain ⟨n, r, d, e, hR, hC, hD, hE, hg, hbl⟩ := h.ex
  have hN := hide (number_any K rb 1 r w hR (by omega))
  unfold NumR at hN
  have hp0 := h.ptr
  have HJ := hide h
  have HC := hide hC
  have HD := hide hD
  have HE := hide hE
  cases hp : numN 1 r with
  | none =>
    rw [hp] at hN
    have hbad : Hid (nodeP l = none) := hide (by rw [hg, n1, hp]; rfl)
    clear h hR hC hD hE hg
    go_enter Try.func54, Try.ntmps54
    go_wp2_with fail
    refine (unhide hN).mono ?_
    rintro e w1 ⟨hF, rfl⟩
    have hlt := Nat.lt_of_lt_of_le (unhide HC).lt hF.size
    have hc := (hF.cell ⟨nb, 1, none⟩ (unhide HC).lt (by simp)).trans ((unhide HC).cells 0 _ rfl)
    have hfz := (hF.frozen ⟨nb, 1, none⟩ (unhide HC).lt).trans ((unhide HC).fz 1)
    have F2 := hide ((hF.mono (S' := [⟨rb, 0, none⟩, ⟨nb, 1, none⟩]) (by simp)).trans ((Fr.set w1 ⟨nb, 1, none⟩ (.int .u8 0)).mono (by simp)))
    clear hN hF HC HD HE hp0
    go_wp2_with fail
    go_ret
    exact .inr ⟨rfl, (unhide HJ).bad (unhide F2) (pls2 rb nb 0) (unhide hbad)⟩
  | some p =>
    obtain ⟨x, r1⟩ := p
    have hx := numN_lt hp
    rw [hp] at hN
    have hg2 : Hid (nodeP l = n2 { n with kind := UInt8.ofNat x } r1) := hide (by rw [hg, n1, hp]; rfl)
    have hv : ((UInt8.ofNat x).toNat : Int) = (x : Int) := by rw [UInt8.toNat_ofNat']; omega
    clear h hR hC hD hE hg
    go_enter Try.func54, Try.ntmps54
    go_wp2_with fail
    refine (unhide hN).mono ?_
    rintro e w1 ⟨hF, rfl, hR1⟩
    have hlt := Nat.lt_of_lt_of_le (unhide HC).lt hF.size
    have hc := (hF.cell ⟨nb, 1, none⟩ (unhide HC).lt (by simp)).trans ((unhide HC).cells 0 _ rfl)
    have hfz := (hF.frozen ⟨nb, 1, none⟩ (unhide HC).lt).trans ((unhide HC).fz 1)
    have F1 := Fr.set w1 ⟨nb, 1, none⟩ (.int .u8 (x : Int))
    have F2 := (hF.mono (S' := [⟨rb, 0, none⟩, ⟨nb, 0 + 1, none⟩]) (by simp)).trans (F1.mono (by simp))
    have hc9 := World.cell?_setCell_same w1 ⟨nb, 1, none⟩ (.int .u8 (x : Int)) hc
    have hR9 := hR1.fr F1 (by simp) (by have := (unhide HJ).rlt; have := hR1.lo; simp; omega)
    have J9 : Hid (Jn 0 ws K rb nb fb l n2 (w1.setCell ⟨nb, 1, none⟩ (.int .u8 (x : Int)))) := by
      refine (unhide HJ).next (n' := { n with kind := UInt8.ofNat x }) F2 (pls2 rb nb 0) hR9 ?_ (rowN_same (unhide HD) F2 (pls2 rb nb 0) (unhide HJ).rlt) (rowE_same (unhide HE) F2 (pls2 rb nb 0) (unhide HJ).rlt) (unhide hg2) hbl
      refine (unhide HC).upd (fun i => i == 0) F2 (ten ?_ ?_ ?_ ?_ ?_ ?_ ?_ ?_ ?_ ?_) (fun i v hi hj hv' => ?_)
      all_goals first | (intro q; simp at q; done) | (intro _; exact ⟨by simp, rfl⟩) | skip
      obtain rfl : i = 0 := by simpa using hj
      rw [← Option.some.inj (show some (Value.int .u8 ((UInt8.ofNat x).toNat : Int)) = some v from hv'), hv]
      exact hc9
    clear hN hF HC HD HE hR1 F1 F2 hc9 hR9 hv HJ hp0
    go_wp2_with fail
    go_ret
    exact .inl ⟨rfl, unhide J9⟩
theorem dataN {ws : World} {K rb nb fb : Nat} {l : Bs} {w w1 : World} {n : Nd} {d e v : Value} {x r1 : Bs} (h : Jn 0 ws K rb nb fb l n3 w) (C : C10 w nb n d e) (E : RowE (nb + 1) e n.list w) (F2 : Fr [⟨rb, 0, none⟩, ⟨nb, 6 + 1, none⟩] w w1) (hR : Rd w1 K rb r1) (hv : w1.cell? ⟨nb, 7, none⟩ = some v) (hRow : Row w.heap.size v x w1) (hg : nodeP l = n4 { n with data := x } r1) (hbl : n.list.length ≤ 0) : Jn 0 ws K rb nb fb l n4 w1 := by
  refine h.next (n' := { n with data := x }) (d' := v) F2 (pls2 rb nb 6) hR ?_ (row_base hRow C.lt) (rowE_same E F2 (pls2 rb nb 6) h.rlt) hg hbl
  refine C.upd (fun i => i == 6) F2 (ten ?_ ?_ ?_ ?_ ?_ ?_ ?_ ?_ ?_ ?_) (fun i u hi hj hv' => ?_)
  all_goals first | (intro q; simp at q; done) | (intro _; exact ⟨by simp, rfl⟩) | skip
  obtain rfl : i = 6 := by simpa using hj
  simp at hv'
  subst hv'
  exact hv
set_option maxHeartbeats 1000000 in
set_option maxRecDepth 100000 in
theorem ndata_any (ws : World) (K rb nb fb : Nat) (l : Bs) (w : World) (h' : Jn 0 ws K rb nb fb l n3 w) : Calls Try.prog 56 #[rp nb] w (PartN 0 ws K rb nb fb l n4) := by
  have h := h'.drew
  obtain ⟨n, r, d, e, hR, hC, hD, hE, hg, hbl⟩ := h.ex
  have hlt := hC.lt
  have hp0 : w.cell? ⟨nb, 0, none⟩ = some (rp rb) := h'.ptr
  have hN : Hid (Calls Try.prog 53 #[.pointer (some ⟨rb, 0, none⟩), .pointer (some ⟨nb, 7, none⟩)] w.drew (DInR w.drew K rb ⟨nb, 6 + 1, none⟩ (txtP r))) := hide (dataInto_any K rb nb 7 d r w.drew hR (TgN h hC hR.lo rfl))
  unfold DInR at hN
  have HJ := hide h
  have HC := hide hC
  have HE := hide hE
  cases hp : txtP r with
  | none =>
    rw [hp] at hN
    have hbad : Hid (nodeP l = none) := hide (by rw [hg, n3, hp]; rfl)
    clear h h' hR hC hD hE hg
    go_enter Try.func56, Try.ntmps56
    go_wp2_with fail
    go_region_with (go_at_call 53; refine (unhide hN).mono ?_; rintro e w1 ⟨hF, rfl⟩; have F2 := hide hF; clear hF)
    go_wp2_with fail
    go_ret
    exact .inr ⟨rfl, (unhide HJ).bad (unhide F2) (pls2 rb nb 6) (unhide hbad)⟩
  | some p =>
    obtain ⟨x, r1⟩ := p
    rw [hp] at hN
    have hg2 : Hid (nodeP l = n4 { n with data := x } r1) := hide (by rw [hg, n3, hp]; rfl)
    clear h h' hR hC hD hE hg
    go_enter Try.func56, Try.ntmps56
    go_wp2_with fail
    go_region_with (go_at_call 53; refine (unhide hN).mono ?_; rintro e w1 ⟨hF, rfl, hR1, v, hv, hRow⟩; have J9 : Hid (Jn 0 ws K rb nb fb l n4 w1) := dataN (unhide HJ) (unhide HC) (unhide HE) hF hR1 hv hRow (unhide hg2) hbl; clear hF hR1 hv hRow)
    go_wp2_with fail
    go_ret
    exact .inl ⟨rfl, unhide J9⟩
end Go.Proofs.Ytbofidpoajdcmab.Cd
