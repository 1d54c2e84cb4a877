/- A map from bytes to functions; what deeds and Apply answer. -/
import Derived.Test.YtijknodbaddelaaGreatDoorMoBits
import Derived.Laws.AppendOwnNone
namespace Go.Proofs.YtijknodbaddelaaGreatDoor.Mo
open Go.RowKit

abbrev ky (c : UInt8) : Value := .int .u8 (c.toNat : Int)
theorem ky_inj {a b : UInt8} (h : ky a = ky b) : a = b := UInt8.toNat_inj.1 (by unfold ky at h; injection h with _ h; omega)
/-- block b is a map of these bytes to these values -/
def UM (w : World) (b : Nat) (ks : List UInt8) (vs : List Value) : Prop := ∃ es clock, w.heap[b]? = some (.map es clock) ∧ es.toList.map (·.key) = ks.map ky ∧ es.toList.map (·.val) = vs
theorem UM.made (w : World) : UM (w.alloc (.map #[] 0)) w.heap.size [] [] := ⟨#[], 0, heap_alloc_new w _, rfl, rfl⟩
theorem UM.lt {w : World} {b : Nat} {ks : List UInt8} {vs : List Value} (h : UM w b ks vs) : b < w.heap.size := by
  obtain ⟨es, clock, h, _⟩ := h
  exact (Array.getElem?_eq_some_iff.1 h).1
theorem UM.below {w w' : World} {b : Nat} {ks : List UInt8} {vs : List Value} (h : UM w b ks vs) (hb : Below w.heap.size w w') : UM w' b ks vs := by
  have hl := h.lt
  obtain ⟨es, clock, h, h2, h3⟩ := h
  exact ⟨es, clock, (hb.block b hl).trans h, h2, h3⟩
theorem keys_of {es : List MapEntry} {ks : List UInt8} (h : es.map (·.key) = ks.map ky) : ∀ x ∈ es, ∃ k ∈ ks, x.key = ky k := by
  intro x hx
  have : x.key ∈ ks.map ky := by rw [← h]; exact List.mem_map_of_mem hx
  obtain ⟨k, hk, e⟩ := List.mem_map.1 this
  exact ⟨k, hk, e.symm⟩
theorem isKey_u8 (k : UInt8) : MapKept.IsKey (.int .u8) (ky k) := by simp [MapKept.IsKey]
theorem isKeys {es : List MapEntry} {ks : List UInt8} (h : es.map (·.key) = ks.map ky) : ∀ x ∈ es, MapKept.IsKey (.int .u8) x.key := by
  intro x hx
  obtain ⟨k, _, e⟩ := keys_of h x hx
  rw [e]; exact isKey_u8 k
/-- what an Op does, as a value -/
abbrev fv (n : Nat) : Value := .func (.func n) #[] #[]
end Go.Proofs.YtijknodbaddelaaGreatDoor.Mo
