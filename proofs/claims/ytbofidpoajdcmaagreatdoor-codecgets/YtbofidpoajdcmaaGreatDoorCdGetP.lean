/- What Get answers, in plain words, part by part; the box of a reader of calls. -/
import Derived.Test.YtbofidpoajdcmaaGreatDoorCdRead3
import Derived.Test.YtbofidpoajdcmaaGreatDoorCdTell3
import Derived.Test.YtbofidpoajdcmaaGreatDoorCdPut
namespace Go.Proofs.YtbofidpoajdcmaaGreatDoor.Cd
open Go.RowKit Cu Tr

def caz : Ca := ⟨0, ⟨#[]⟩, ⟨#[]⟩, 0, 0, 0, 0, [], 0, 0, 0, 0⟩
abbrev Rest := Ca → Bs → Option (Ca × Bs)
def g6 : Rest := fun c r => some (c, r)
def g5 : Rest := fun c r => (intsP 4 r).bind fun p => g6 { c with eu := p.1.getD 0 0, eg := p.1.getD 1 0, em := p.1.getD 2 0, ed := p.1.getD 3 0 } p.2
def g4 : Rest := fun c r => (txtP r).bind fun p => g5 { c with data := p.1 } p.2
def g3 : Rest := fun c r => (intsP 4 r).bind fun p => g4 { c with mode := p.1.getD 0 0, user := p.1.getD 1 0, group := p.1.getD 2 0, time := p.1.getD 3 0 } p.2
def g2 : Rest := fun c r => (txtP r).bind fun p => (txtP p.2).bind fun q => g3 { c with path := ba p.1, other := ba q.1 } q.2
def g1 : Rest := fun c r => (numN 1 r).bind fun p => g2 { c with kind := UInt8.ofNat p.1 } p.2
def getP (l : Bs) : Option (Ca × Bs) := g1 caz l
/-- the cells of a call, in a reader's box -/
structure C13 (w : World) (rb : Nat) (c : Ca) (d : Value) : Prop where
  c1 : w.cell? ⟨rb, 1, none⟩ = some (.int .u8 (c.kind.toNat : Int))
  c2 : w.cell? ⟨rb, 2, none⟩ = some (.string c.path)
  c3 : w.cell? ⟨rb, 3, none⟩ = some (.string c.other)
  c4 : w.cell? ⟨rb, 4, none⟩ = some (.int .i64 c.mode)
  c5 : w.cell? ⟨rb, 5, none⟩ = some (.int .i64 c.user)
  c6 : w.cell? ⟨rb, 6, none⟩ = some (.int .i64 c.group)
  c7 : w.cell? ⟨rb, 7, none⟩ = some (.int .i64 c.time)
  c8 : w.cell? ⟨rb, 8, none⟩ = some d
  c9 : w.cell? ⟨rb, 9, none⟩ = some (.int .i64 c.eu)
  c10 : w.cell? ⟨rb, 10, none⟩ = some (.int .i64 c.eg)
  c11 : w.cell? ⟨rb, 11, none⟩ = some (.int .i64 c.em)
  c12 : w.cell? ⟨rb, 12, none⟩ = some (.int .i64 c.ed)
  fz : ∀ i, w.frozen? ⟨rb, i, none⟩ = false
  lt : rb < w.heap.size
abbrev partIds : List Nat := [122, 123, 124, 125, 126]
abbrev rp (rb : Nat) : Value := .pointer (some ⟨rb, 0, none⟩)
/-- so far as a call is read: what is left to do is g -/
structure Js (w0 : World) (K rb fb : Nat) (l : Bs) (g : Rest) (w : World) : Prop where
  below : Below K w0 w
  fns : Fns w fb partIds (rp rb)
  ne : fb ≠ rb
  ex : ∃ c r d, Rd w K rb r ∧ C13 w rb c d ∧ Row (rb + 1) d c.data w ∧ getP l = g c r
def Bad (w0 : World) (K : Nat) (l : Bs) (w : World) : Prop := Below K w0 w ∧ getP l = none
theorem Js.next {w0 : World} {K rb fb : Nat} {l : Bs} {g g' : Rest} {w w' : World} {S : List Addr} {c' : Ca} {r' : Bs} {d' : Value} (h : Js w0 K rb fb l g w) (hf : Fr S w w') (hs : ∀ p ∈ S, p.block = rb)
    (hR : Rd w' K rb r') (hC : C13 w' rb c' d') (hD : Row (rb + 1) d' c'.data w') (hg : getP l = g' c' r') : Js w0 K rb fb l g' w' := by
  have hlo := hR.lo
  obtain ⟨_, _, _, hR0, _⟩ := h.ex
  refine ⟨h.below.trans (hf.below (by have := hR0.lt; omega) (fun p hp => by rw [hs p hp]; exact hlo)), ?_, h.ne, c', r', d', hR, hC, hD, hg⟩
  exact (hf.block fb (Array.getElem?_eq_some_iff.1 h.fns).1 (fun p hp => by rw [hs p hp]; exact Ne.symm h.ne)).trans h.fns
theorem Js.bad {w0 : World} {K rb fb : Nat} {l : Bs} {g : Rest} {w w' : World} {S : List Addr} (h : Js w0 K rb fb l g w) (hf : Fr S w w') (hs : ∀ p ∈ S, p.block = rb) (hg : getP l = none) : Bad w0 K l w' := by
  obtain ⟨_, _, _, hR0, _⟩ := h.ex
  exact ⟨h.below.trans (hf.below (by have := hR0.lt; have := hR0.lo; omega) (fun p hp => by rw [hs p hp]; exact hR0.lo)), hg⟩
theorem row_same {S : List Addr} {w w' : World} {rb : Nat} {v : Value} {l : Bs} (h : Row (rb + 1) v l w) (hf : Fr S w w') (hs : ∀ p ∈ S, p.block = rb) : Row (rb + 1) v l w' :=
  row_kept h hf (fun k hk p hp => by rw [hs p hp]; have := row_lo h k hk; omega)
theorem Tg.of {w : World} {K rb : Nat} {c : Ca} {d : Value} (hC : C13 w rb c d) (hK : K ≤ rb) {i : Nat} {v : Value} (h : w.cell? ⟨rb, i + 1, none⟩ = some v) : Tg w K rb ⟨rb, i + 1, none⟩ v := ⟨h, hC.fz _, hK, hC.lt, by simp⟩
/-- what a part answers -/
def PartR (w0 : World) (K rb fb : Nat) (l : Bs) (g : Rest) (e : Ending) (w' : World) : Prop := (e = .returned (.bool true) ∧ Js w0 K rb fb l g w') ∨ (e = .returned (.bool false) ∧ Bad w0 K l w')

set_option maxHeartbeats 400000 in
set_option maxRecDepth 100000 in
theorem kind_any (w0 : World) (K rb fb : Nat) (l : Bs) (w : World) (h : Js w0 K rb fb l g1 w) : Calls Tryz.prog 122 #[rp rb] w (PartR w0 K rb fb l g2) := by
  obtain ⟨c, r, d, hR, hC, hD, hg⟩ := h.ex
  have hN := hide (number_any K rb 1 r w hR (by omega))
  unfold NumR at hN
  have HJ := hide h
  have HC := hide hC
  have HD := hide hD
  cases hp : numN 1 r with
  | none =>
    rw [hp] at hN
    have hbad : Hid (getP l = none) := hide (by rw [hg, g1, hp]; rfl)
    clear h hR hC hD hg
    go_enter Tryz.func122, Tryz.ntmps122
    go_wp2_with fail
    refine (unhide hN).mono ?_
    rintro e w1 ⟨hF, rfl⟩
    have hlt := Nat.lt_of_lt_of_le (unhide HC).lt hF.size
    have hc := (hF.cell ⟨rb, 1, none⟩ (unhide HC).lt (by simp)).trans (unhide HC).c1
    have hfz := (hF.frozen ⟨rb, 1, none⟩ (unhide HC).lt).trans ((unhide HC).fz 1)
    have F2 := hide ((hF.mono (S' := [⟨rb, 0, none⟩, ⟨rb, 1, none⟩]) (by simp)).trans ((Fr.set w1 ⟨rb, 1, none⟩ (.int .u8 0)).mono (by simp)))
    clear hN hF HC HD
    go_wp2_with fail
    go_ret
    exact .inr ⟨rfl, (unhide HJ).bad (unhide F2) (by simp) (unhide hbad)⟩
  | some p =>
    obtain ⟨x, r1⟩ := p
    have hx := numN_lt hp
    rw [hp] at hN
    have hg2 : Hid (getP l = g2 { c with kind := UInt8.ofNat x } r1) := hide (by rw [hg, g1, hp]; rfl)
    have hv : ((UInt8.ofNat x).toNat : Int) = (x : Int) := by rw [UInt8.toNat_ofNat']; omega
    clear h hR hC hD hg
    go_enter Tryz.func122, Tryz.ntmps122
    go_wp2_with fail
    refine (unhide hN).mono ?_
    rintro e w1 ⟨hF, rfl, hR1⟩
    have hlt := Nat.lt_of_lt_of_le (unhide HC).lt hF.size
    have hc := (hF.cell ⟨rb, 1, none⟩ (unhide HC).lt (by simp)).trans (unhide HC).c1
    have hfz := (hF.frozen ⟨rb, 1, none⟩ (unhide HC).lt).trans ((unhide HC).fz 1)
    have F1 := Fr.set w1 ⟨rb, 1, none⟩ (.int .u8 (x : Int))
    have F2 := (hF.mono (S' := [⟨rb, 0, none⟩, ⟨rb, 1, none⟩]) (by simp)).trans (F1.mono (by simp))
    have hc9 := World.cell?_setCell_same w1 ⟨rb, 1, none⟩ (.int .u8 (x : Int)) hc
    have hR9 := hR1.fr F1 (by simp) (by simpa using hR1.lo)
    have J9 : Hid (Js w0 K rb fb l g2 (w1.setCell ⟨rb, 1, none⟩ (.int .u8 (x : Int)))) := by
      refine (unhide HJ).next (c' := { c with kind := UInt8.ofNat x }) (d' := d) F2 (by simp) hR9 ?_ (row_same (unhide HD) F2 (by simp)) (unhide hg2)
      have C := unhide HC
      have q := fun i (hi : (⟨rb, i, none⟩ : Addr) ∉ [(⟨rb, 0, none⟩ : Addr), ⟨rb, 1, none⟩]) => F2.cell ⟨rb, i, none⟩ C.lt hi
      exact ⟨by rw [hc9, hv], (q 2 (by simp)).trans C.c2, (q 3 (by simp)).trans C.c3, (q 4 (by simp)).trans C.c4, (q 5 (by simp)).trans C.c5, (q 6 (by simp)).trans C.c6, (q 7 (by simp)).trans C.c7, (q 8 (by simp)).trans C.c8, (q 9 (by simp)).trans C.c9, (q 10 (by simp)).trans C.c10, (q 11 (by simp)).trans C.c11, (q 12 (by simp)).trans C.c12, fun i => (F2.frozen _ C.lt).trans (C.fz i), Nat.lt_of_lt_of_le C.lt F2.size⟩
    clear hN hF HC HD hR1 F1 F2 hc9 hR9 hv HJ
    go_wp2_with fail
    go_ret
    exact .inl ⟨rfl, unhide J9⟩
end Go.Proofs.YtbofidpoajdcmaaGreatDoor.Cd
