/- The lists of one kind that the Book holds, through fill, grow and look: no function is named here. -/
import Derived.Test.YtbofidpoajdcmaaGreatDoorBookFill
namespace Go.Proofs.YtbofidpoajdcmaaGreatDoor.Bk
open Go.RowKit

/-- the lists of one kind: the type of what is held, the elements' type, their cells, the mark's cells; the row that holds them, how many, the lists, their marks, lengths, cells -/
structure Kd where
  eH : TypeId
  e : TypeId
  s : Nat
  mark : Nat → List Value
  u : Value
  k : Nat
  V : Nat → Value
  M : Nat → Nat
  N : Nat → Nat
  X : Nat → List Value

def Kd.full (d : Kd) (i : Nat) : List Value := marks (d.mark (d.M i)) (d.N i)
/-- as they were kept; all marks; grown -/
def Kd.st (d : Kd) (ph : Nat) (w : World) : Prop :=
  match ph with
  | 0 => w.ownsRow 0 d.eH 3 d.u d.k (held d.V (fun _ => .slice none 0 0) d.M d.k) ∧ Rows1 w d.e d.s d.k d.V d.N d.X
  | 1 => w.ownsRow 0 d.eH 3 d.u d.k (held d.V (fun _ => .slice none 0 0) d.M d.k) ∧ Rows1 w d.e d.s d.k d.V d.N d.full
  | _ => ∃ G : Nat → Value, w.ownsRow 0 d.eH 3 d.u d.k (held d.V G d.M d.k) ∧ (∀ j, j < d.k → w.ownsRow 0 d.e d.s (G j) (d.N j + 40) (marks (d.mark (d.M j)) (d.N j + 40))) ∧ (∀ j, j < d.k → w.ownsRow 0 d.e d.s (d.V j) (d.N j) (d.full j))
def Kd.ok (d : Kd) : Prop := d.k ≤ 1000000 ∧ (∀ i, i < d.k → d.M i < 100) ∧ (∀ i, i < d.k → d.N i ≤ 140737488351232)
def Kd.bl (d : Kd) (b : Nat) : Prop := (∃ i, i < d.k ∧ (d.V i).ownBlock = some b) ∨ d.u.ownBlock = some b

/-- the blocks of S are rows of the types E -/
def Tys (E : TypeId → Prop) (S : Nat → Prop) (w : World) : Prop := ∀ b, S b → ∃ c e, E e ∧ w.heap[b]? = some (.cells c e (0, 0))
theorem Tys.own {E : TypeId → Prop} {S : Nat → Prop} {w w' : World} {base : Nat} {e : TypeId} {s : Nat} {v : Value} {n : Nat} {xs : List Value} (hS : Tys E S w) (h : Touch S w w') (ho : w.ownsRow base e s v n xs) (he : ¬ E e) : w'.ownsRow base e s v n xs :=
  h.own ho (fun b hb hs => by
    obtain ⟨c, e', hE, hc⟩ := hS b hs
    obtain ⟨_, c2, hc2⟩ := own_block ho b hb
    rw [hc] at hc2
    simp at hc2
    exact he (hc2.2 ▸ hE))
theorem Tys.none (w : World) : Tys (fun _ => False) (fun _ => False) w := fun _ h => h.elim

theorem Kd.bl_ty {d : Kd} {ph : Nat} {w : World} (hd : d.st ph w) : Tys (fun e => e = d.eH ∨ e = d.e) d.bl w := by
  intro b hb
  have h1 : ∃ xs, w.ownsRow 0 d.eH 3 d.u d.k xs := by
    match ph, hd with
    | 0, hd => exact ⟨_, hd.1⟩
    | 1, hd => exact ⟨_, hd.1⟩
    | n + 2, hd => obtain ⟨G, h, _⟩ := hd; exact ⟨_, h⟩
  have h2 : ∀ i, i < d.k → ∃ xs, w.ownsRow 0 d.e d.s (d.V i) (d.N i) xs := by
    intro i hi
    match ph, hd with
    | 0, hd => exact ⟨_, hd.2.own i hi⟩
    | 1, hd => exact ⟨_, hd.2.own i hi⟩
    | n + 2, hd => obtain ⟨G, _, _, h⟩ := hd; exact ⟨_, h i hi⟩
  rcases hb with ⟨i, hi, e⟩ | e
  · obtain ⟨xs, h⟩ := h2 i hi
    obtain ⟨_, c, hc⟩ := own_block h b e
    exact ⟨c, _, .inr rfl, hc⟩
  · obtain ⟨xs, h⟩ := h1
    obtain ⟨_, c, hc⟩ := own_block h b e
    exact ⟨c, _, .inl rfl, hc⟩

theorem Kd.keep {d : Kd} {ph : Nat} {w w' : World} {E : TypeId → Prop} {S : Nat → Prop} (hS : Tys E S w) (h : Touch S w w') (h1 : ¬ E d.eH) (h2 : ¬ E d.e) (hd : d.st ph w) : d.st ph w' := by
  match ph, hd with
  | 0, hd => exact ⟨hS.own h hd.1 h1, fun i hi => hS.own h (hd.2.own i hi) h2, hd.2.apart⟩
  | 1, hd => exact ⟨hS.own h hd.1 h1, fun i hi => hS.own h (hd.2.own i hi) h2, hd.2.apart⟩
  | n + 2, hd =>
    obtain ⟨G, a, b, c⟩ := hd
    exact ⟨G, hS.own h a h1, fun i hi => hS.own h (b i hi) h2, fun i hi => hS.own h (c i hi) h2⟩
theorem Tys.mono {E : TypeId → Prop} {S S' : Nat → Prop} {w : World} (h : Tys E S w) (hs : ∀ b, S' b → S b) : Tys E S' w := fun b hb => h b (hs b hb)
theorem Touch.none {w w' : World} (h : w' = w) : Touch (fun _ => False) w w' := h ▸ Touch.refl _ _
end Go.Proofs.YtbofidpoajdcmaaGreatDoor.Bk
