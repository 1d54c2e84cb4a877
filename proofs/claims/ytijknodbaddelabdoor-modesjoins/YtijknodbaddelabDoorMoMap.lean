/- A map from bytes to functions; what deeds and Apply answer. -/
import Derived.Test.YtijknodbaddelabDoorMoBits
import Derived.Laws.AppendOwnNone
namespace Go.Proofs.YtijknodbaddelabDoor.Mo
open Go.RowKit

abbrev ky (c : UInt8) : Value := .int .u8 (c.toNat : Int)
theorem ky_inj {a b : UInt8} (h : ky a = ky b) : a = b := UInt8.toNat_inj.1 (by unfold ky at h; injection h with _ h; omega)
/-- block b is a map of these bytes to these values -/
def UM (w : World) (b : Nat) (ks : List UInt8) (vs : List Value) : Prop := ∃ es clock, w.heap[b]? = some (.map es clock) ∧ es.toList.map (·.key) = ks.map ky ∧ es.toList.map (·.val) = vs
theorem UM.made (w : World) : UM (w.alloc (.map #[] 0)) w.heap.size [] [] := ⟨#[], 0, heap_alloc_new w _, rfl, rfl⟩
theorem UM.lt {w : World} {b : Nat} {ks : List UInt8} {vs : List Value} (h : UM w b ks vs) : b < w.heap.size := by
  obtain ⟨es, clock, h, _⟩ := h
  exact (Array.getElem?_eq_some_iff.1 h).1
theorem UM.below {w w' : World} {b : Nat} {ks : List UInt8} {vs : List Value} (h : UM w b ks vs) (hb : Below w.heap.size w w') : UM w' b ks vs := by
  have hl := h.lt
  obtain ⟨es, clock, h, h2, h3⟩ := h
  exact ⟨es, clock, (hb.block b hl).trans h, h2, h3⟩
theorem keys_of {es : List MapEntry} {ks : List UInt8} (h : es.map (·.key) = ks.map ky) : ∀ x ∈ es, ∃ k ∈ ks, x.key = ky k := by
  intro x hx
  have : x.key ∈ ks.map ky := by rw [← h]; exact List.mem_map_of_mem hx
  obtain ⟨k, hk, e⟩ := List.mem_map.1 this
  exact ⟨k, hk, e.symm⟩
theorem isKey_u8 (k : UInt8) : MapKept.IsKey (.int .u8) (ky k) := by simp [MapKept.IsKey]
theorem isKeys {es : List MapEntry} {ks : List UInt8} (h : es.map (·.key) = ks.map ky) : ∀ x ∈ es, MapKept.IsKey (.int .u8) x.key := by
  intro x hx
  obtain ⟨k, _, e⟩ := keys_of h x hx
  rw [e]; exact isKey_u8 k
theorem UM.update {w : World} {b : Nat} {ks : List UInt8} {vs : List Value} (h : UM w b ks vs) (k : UInt8) (v : Value) (hk : ∀ q ∈ ks, q ≠ k) :
    ∃ w', (Instr.mapUpdate 44 (.map (some b)) (ky k) v).run Tryd.prog w = .ok () w' ∧ UM w' b (ks ++ [k]) (vs ++ [v]) ∧ (∀ B, B ≤ b → Below B w w') := by
  have hlt := h.lt
  obtain ⟨es, clock, hb, h2, h3⟩ := h
  have hf : Instr.findNow (.int .u8) (ky k) es.toList 0 = some none := by
    rcases MapKept.findNow_spec (isKey_u8 k) es.toList 0 (isKeys h2) with ⟨h, _⟩ | ⟨j, e, _, hj, he⟩
    · exact h
    · obtain ⟨q, hq, e'⟩ := keys_of h2 e (List.mem_of_getElem? hj)
      rw [he] at e'
      exact absurd (ky_inj e').symm (hk q hq)
  have hc : (Instr.checkKey false 10000 5 (ky k)).run Tryd.prog w = .ok () w := MapKept.run_checkKey (k := ky k) Tryd.underlying5 (isKey_u8 k) false 9999
  refine ⟨{ w with heap := w.heap.setIfInBounds b (.map (es.push { key := ky k, val := v, born := clock }) (clock + 1)) }, ?_, ?_, ?_⟩
  · simp [Instr.mapUpdate, run_underlying Tryd.underlying44, MapKept.run_getObj_map hb, hc, MapKept.run_findKey Tryd.underlying5 hf, MapKept.run_setObj_map _ hb, Result.andThen]
  · exact ⟨_, _, (MapKept.heap_set hb).1, by simp [h2], by simp [h3]⟩
  · intro B hB
    exact ⟨rfl, rfl, rfl, by simp, fun j hj => (MapKept.heap_set hb).2 j (by omega)⟩
theorem UM.look {w : World} {b : Nat} {ks : List UInt8} {vs : List Value} (h : UM w b ks vs) (k : UInt8) :
    ((∀ q ∈ ks, q ≠ k) ∧ (Instr.lookup 44 (.map (some b)) (ky k) true).run Tryd.prog w = .ok (.tuple #[.nilFunc, .bool false]) w) ∨
    ∃ (j : Nat) (v : Value), ks[j]? = some k ∧ vs[j]? = some v ∧ (Instr.lookup 44 (.map (some b)) (ky k) true).run Tryd.prog w = .ok (.tuple #[v, .bool true]) w := by
  obtain ⟨es, clock, hb, h2, h3⟩ := h
  have hc : (Instr.checkKey es.isEmpty 10000 5 (ky k)).run Tryd.prog w = .ok () w := MapKept.run_checkKey (k := ky k) Tryd.underlying5 (isKey_u8 k) _ 9999
  rcases MapKept.findNow_spec (isKey_u8 k) es.toList 0 (isKeys h2) with ⟨hf, hn⟩ | ⟨j, e, hf, hj, he⟩
  · refine .inl ⟨fun q hq e => ?_, ?_⟩
    · subst e
      have : ky q ∈ es.toList.map (·.key) := by rw [h2]; exact List.mem_map_of_mem hq
      obtain ⟨x, hx, e'⟩ := List.mem_map.1 this
      exact hn x hx e'
    · simp [Instr.lookup, run_underlying Tryd.underlying44, MapKept.run_getObj_map hb, hc, MapKept.run_findKey Tryd.underlying5 hf, Result.andThen]
  · refine .inr ⟨j, e.val, ?_, ?_, ?_⟩
    · have h5 : (es.toList.map (·.key))[j]? = some (ky k) := by rw [List.getElem?_map, hj]; simp [he]
      rw [h2, List.getElem?_map] at h5
      obtain ⟨q, hq, e'⟩ := Option.map_eq_some_iff.1 h5
      rw [hq, ky_inj e']
    · rw [← h3, List.getElem?_map, hj]; rfl
    · simp [Instr.lookup, run_underlying Tryd.underlying44, MapKept.run_getObj_map hb, hc, MapKept.run_findKey Tryd.underlying5 hf, Result.andThen]

/-- what an Op does, as a value -/
abbrev fv (n : Nat) : Value := .func (.func n) #[] #[]
/-- block b is the map of what the three Ops do -/
def Deeds (w : World) (b : Nat) : Prop := UM w b [43, 45, 61] [fv 27, fv 28, fv 29]
theorem ins_first (w : World) : ∃ w', (Instr.mapUpdate 44 (.map (some w.heap.size)) (.int .u8 43) (fv 27)).run Tryd.prog (w.alloc (.map #[] 0)) = .ok () w' ∧ UM w' w.heap.size [43] [fv 27] ∧ Below w.heap.size w w' := by
  obtain ⟨w', h1, h2, h3⟩ := (UM.made w).update 43 (fv 27) (by simp)
  exact ⟨w', h1, h2, ((Below.refl _ _).alloc (Nat.le_refl _) _).trans (h3 _ (Nat.le_refl _))⟩
set_option maxHeartbeats 400000 in
set_option maxRecDepth 100000 in
theorem deeds_any (w : World) : Calls Tryd.prog 15 #[] w fun e w' => e = .returned (.map (some w.heap.size)) ∧ Deeds w' w.heap.size ∧ Below w.heap.size w w' := by
  have hmm := @run_makeMap Tryd.prog
  obtain ⟨w1, r1, m1, b1⟩ := ins_first w
  obtain ⟨w2, r2, m2, b2⟩ := m1.update 45 (fv 28) (by simp)
  obtain ⟨w3, r3, m3, b3⟩ := m2.update 61 (fv 29) (by simp)
  have r2' : (Instr.mapUpdate 44 (.map (some w.heap.size)) (.int .u8 45) (fv 28)).run Tryd.prog w1 = .ok () w2 := r2
  have r3' : (Instr.mapUpdate 44 (.map (some w.heap.size)) (.int .u8 61) (fv 29)).run Tryd.prog w2 = .ok () w3 := r3
  have HD : Hid (Deeds w3 w.heap.size ∧ Below w.heap.size w w3) := ⟨m3, (b1.trans (b2 _ (Nat.le_refl _))).trans (b3 _ (Nat.le_refl _))⟩
  clear r2 r3 m1 m2 m3 b1 b2 b3
  go_enter Tryd.func15, Tryd.ntmps15
  go_wp2_with fail
  go_ret
  exact ⟨rfl, unhide HD⟩
end Go.Proofs.YtijknodbaddelabDoor.Mo
