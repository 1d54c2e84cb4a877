/- A strings.Builder, by its bytes. -/
import Derived.Test.YtjkajhnnoecjbaaDoorVwPlain
import Derived.Test.YtjkajhnnoecjbaaDoorLnBuild
set_option linter.unusedVariables false
namespace Go.Proofs.YtjkajhnnoecjbaaDoor.Vw
open Go.RowKit Go.Shelf Cu

abbrev IsB (B b : Nat) (l : Bs) (w : World) : Prop := Ln.IsB B b l w
theorem own_below {w w' : World} {base : Nat} {e : TypeId} {size : Nat} {v : Value} {n : Nat} {xs : List Value} (h : w.ownsRow base e size v n xs) (hb : Below w.heap.size w w') : w'.ownsRow base e size v n xs :=
  h.kept (row := none) ⟨hb.os, hb.tape, hb.output, hb.size, fun k hk _ => hb.block k hk⟩ (by cases v.ownBlock <;> simp)
theorem isB_below {B b : Nat} {l : Bs} {w w' : World} (h : IsB B b l w) (hb : Below w.heap.size w w') : IsB B b l w' := by
  have go : ∀ p, Lib.BuilderAt 82 5 B b p (Lib.byteCells l) w → Lib.BuilderAt 82 5 B b p (Lib.byteCells l) w' := fun p h => by
    have hlt := h.lt
    obtain ⟨hB, v, hk, ho, hne⟩ := h
    exact ⟨hB, v, (hb.block b hlt).trans hk, own_below ho hb, hne⟩
  rcases h with h | h
  · exact .inl (go _ h)
  · exact .inr (go _ h)
theorem isB_new (w : World) : IsB w.heap.size w.heap.size [] (w.alloc (.cells #[.pointer none, .slice none 0 0] 82)) := Lib.fresh_isBuilder 82 5 w
theorem ws_any (B b : Nat) (l : Bs) (x : ByteArray) (w : World) (h : IsB B b l w) (hlen : l.length + x.size ≤ 140737488355328) (hBw : B ≤ w.heap.size) :
    Calls Tryd.prog 71 #[.pointer (some ⟨b, 0, none⟩), .string x] w fun e w' => e = .returned (.tuple #[.int .i64 x.size, .nilIface]) ∧ IsB B b (l ++ bs x) w' ∧ Below B w w' :=
  (Ln.writeString_any B b _ x w h (by rw [Lib.byteCells_length]; exact hlen) hBw).mono fun e w' ⟨h1, h2, h3⟩ => ⟨h1, by unfold IsB Ln.IsB; rw [Lib.byteCells_append]; exact h2, h3⟩
theorem wb_any (B b : Nat) (l : Bs) (c : UInt8) (w : World) (h : IsB B b l w) (hlen : l.length + 1 ≤ 140737488355328) (hBw : B ≤ w.heap.size) :
    Calls Tryd.prog 73 #[.pointer (some ⟨b, 0, none⟩), .int .u8 (c.toNat : Int)] w fun e w' => e = .returned .nilIface ∧ IsB B b (l ++ [c]) w' ∧ Below B w w' :=
  (Ln.writeByte_any B b _ (c.toNat : Int) w h (by rw [Lib.byteCells_length]; exact hlen) hBw).mono fun e w' ⟨h1, h2, h3⟩ => ⟨h1, by unfold IsB Ln.IsB; rw [Lib.byteCells_append]; exact h2, h3⟩
theorem str_any (B b : Nat) (l : Bs) (w : World) (h : IsB B b l w) (hBw : B ≤ w.heap.size) :
    Calls Tryd.prog 74 #[.pointer (some ⟨b, 0, none⟩)] w fun e w' => e = .returned (.string (bt l)) ∧ Below B w w' := Ln.string_any B b l w h hBw
end Go.Proofs.YtjkajhnnoecjbaaDoor.Vw
