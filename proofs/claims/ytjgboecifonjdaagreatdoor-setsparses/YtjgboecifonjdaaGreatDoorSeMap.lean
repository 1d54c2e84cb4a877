/- A map from texts to functions; what classes answers. -/
import Derived.Test.YtjgboecifonjdaaGreatDoorSeClass
namespace Go.Proofs.YtjgboecifonjdaaGreatDoor.Se
open Go.RowKit

/-- block b is a map of these texts to these values -/
def SM (w : World) (b : Nat) (ks : List ByteArray) (vs : List Value) : Prop := ∃ es clock, w.heap[b]? = some (.map es clock) ∧ es.toList.map (·.key) = ks.map Value.string ∧ es.toList.map (·.val) = vs
theorem SM.made (w : World) : SM (w.alloc (.map #[] 0)) w.heap.size [] [] := ⟨#[], 0, heap_alloc_new w _, rfl, rfl⟩
theorem SM.lt {w : World} {b : Nat} {ks : List ByteArray} {vs : List Value} (h : SM w b ks vs) : b < w.heap.size := by
  obtain ⟨es, clock, h, _⟩ := h
  exact (Array.getElem?_eq_some_iff.1 h).1
theorem SM.below {w w' : World} {b : Nat} {ks : List ByteArray} {vs : List Value} (h : SM w b ks vs) (hb : Below w.heap.size w w') : SM w' b ks vs := by
  have hl := h.lt
  obtain ⟨es, clock, h, h2, h3⟩ := h
  exact ⟨es, clock, (hb.block b hl).trans h, h2, h3⟩
theorem keys_of {es : List MapEntry} {ks : List ByteArray} (h : es.map (·.key) = ks.map Value.string) : ∀ x ∈ es, ∃ k ∈ ks, x.key = .string k := by
  intro x hx
  have : x.key ∈ ks.map Value.string := by rw [← h]; exact List.mem_map_of_mem hx
  obtain ⟨k, hk, e⟩ := List.mem_map.1 this
  exact ⟨k, hk, e.symm⟩
theorem isKey_str (k : ByteArray) : MapKept.IsKey .string (.string k) := by simp [MapKept.IsKey]
theorem isKeys {es : List MapEntry} {ks : List ByteArray} (h : es.map (·.key) = ks.map Value.string) : ∀ x ∈ es, MapKept.IsKey .string x.key := by
  intro x hx
  obtain ⟨k, _, e⟩ := keys_of h x hx
  rw [e]; exact isKey_str k
theorem SM.update {w : World} {b : Nat} {ks : List ByteArray} {vs : List Value} (h : SM w b ks vs) (k : ByteArray) (v : Value) (hk : ∀ q ∈ ks, q ≠ k) :
    ∃ w', (Instr.mapUpdate 46 (.map (some b)) (.string k) v).run Tryz.prog w = .ok () w' ∧ SM w' b (ks ++ [k]) (vs ++ [v]) ∧ Kc w w' ∧ (∀ B, B ≤ b → Below B w w') := by
  have hlt := h.lt
  obtain ⟨es, clock, hb, h2, h3⟩ := h
  have hf : Instr.findNow .string (.string k) es.toList 0 = some none := by
    rcases MapKept.findNow_spec (isKey_str k) es.toList 0 (isKeys h2) with ⟨h, _⟩ | ⟨j, e, _, hj, he⟩
    · exact h
    · obtain ⟨q, hq, e'⟩ := keys_of h2 e (List.mem_of_getElem? hj)
      rw [he] at e'
      exact absurd (Value.string.inj e').symm (hk q hq)
  have hc : (Instr.checkKey false 10000 9 (.string k)).run Tryz.prog w = .ok () w := MapKept.run_checkKey (k := .string k) Tryz.underlying9 (isKey_str k) false 9999
  refine ⟨{ w with heap := w.heap.setIfInBounds b (.map (es.push { key := .string k, val := v, born := clock }) (clock + 1)) }, ?_, ?_, ?_, ?_⟩
  · simp [Instr.mapUpdate, run_underlying Tryz.underlying46, MapKept.run_getObj_map hb, hc, MapKept.run_findKey Tryz.underlying9 hf, MapKept.run_setObj_map _ hb, Result.andThen]
  · exact ⟨_, _, (MapKept.heap_set hb).1, by simp [h2], by simp [h3]⟩
  · refine ⟨by simp, fun j c hj => (MapKept.heap_set hb).2 j ?_⟩
    rintro rfl
    obtain ⟨e, z, hj⟩ := hj
    rw [hb] at hj; simp at hj
  · intro B hB
    exact ⟨rfl, rfl, rfl, by simp, fun j hj => (MapKept.heap_set hb).2 j (by omega)⟩
theorem SM.look {w : World} {b : Nat} {ks : List ByteArray} {vs : List Value} (h : SM w b ks vs) (k : ByteArray) :
    ((∀ q ∈ ks, q ≠ k) ∧ (Instr.lookup 46 (.map (some b)) (.string k) true).run Tryz.prog w = .ok (.tuple #[.nilFunc, .bool false]) w) ∨
    ∃ (j : Nat) (v : Value), ks[j]? = some k ∧ vs[j]? = some v ∧ (Instr.lookup 46 (.map (some b)) (.string k) true).run Tryz.prog w = .ok (.tuple #[v, .bool true]) w := by
  obtain ⟨es, clock, hb, h2, h3⟩ := h
  have hc : (Instr.checkKey es.isEmpty 10000 9 (.string k)).run Tryz.prog w = .ok () w := MapKept.run_checkKey (k := .string k) Tryz.underlying9 (isKey_str k) _ 9999
  rcases MapKept.findNow_spec (isKey_str k) es.toList 0 (isKeys h2) with ⟨hf, hn⟩ | ⟨j, e, hf, hj, he⟩
  · refine .inl ⟨fun q hq e => ?_, ?_⟩
    · subst e
      have : Value.string q ∈ es.toList.map (·.key) := by rw [h2]; exact List.mem_map_of_mem hq
      obtain ⟨x, hx, e'⟩ := List.mem_map.1 this
      exact hn x hx e'
    · simp [Instr.lookup, run_underlying Tryz.underlying46, MapKept.run_getObj_map hb, hc, MapKept.run_findKey Tryz.underlying9 hf, Result.andThen]
  · refine .inr ⟨j, e.val, ?_, ?_, ?_⟩
    · have h5 : (es.toList.map (·.key))[j]? = some (.string k) := by rw [List.getElem?_map, hj]; simp [he]
      rw [h2, List.getElem?_map] at h5
      obtain ⟨q, hq, e'⟩ := Option.map_eq_some_iff.1 h5
      rw [hq, Value.string.inj e']
    · rw [← h3, List.getElem?_map, hj]; rfl
    · simp [Instr.lookup, run_underlying Tryz.underlying46, MapKept.run_getObj_map hb, hc, MapKept.run_findKey Tryz.underlying9 hf, Result.andThen]

def names : List ByteArray := clsL.map fun p => ⟨p.1.toArray⟩
/-- block b is the map of all classes -/
def Named (w : World) (b : Nat) : Prop := ∃ fs, SM w b names fs ∧ fs.length = 12 ∧ ∀ i, i < 12 → Cls w (fs.getD i .nilFunc) (clsL.getD i ([], fun _ => false)).2
theorem Named.below {w w' : World} {b : Nat} (h : Named w b) (hb : Below w.heap.size w w') : Named w' b := by
  obtain ⟨fs, h1, h2, h3⟩ := h
  exact ⟨fs, h1.below hb, h2, fun i hi => (h3 i hi).below hb⟩
theorem Named.lt {w : World} {b : Nat} (h : Named w b) : b < w.heap.size := by
  obtain ⟨fs, h1, _⟩ := h
  exact h1.lt
theorem look_none {α : Type} {n : Bs} {L : List (Bs × α)} (h : ∀ p ∈ L, n ≠ p.1) : look n L = none := by
  induction L with
  | nil => rfl
  | cons p L ih => rw [look, if_neg (h p (.head _)), ih (fun q hq => h q (.tail _ hq))]
theorem cls_at : ∀ i, i < 12 → clsOf (clsL.getD i ([], fun _ => false)).1 = some (clsL.getD i ([], fun _ => false)).2
  | 0, _ => rfl | 1, _ => rfl | 2, _ => rfl | 3, _ => rfl | 4, _ => rfl | 5, _ => rfl | 6, _ => rfl | 7, _ => rfl | 8, _ => rfl | 9, _ => rfl | 10, _ => rfl | 11, _ => rfl
/-- a class by its name -/
theorem Named.look {w w' : World} {b : Nat} (h : Named w b) (hb : Below w.heap.size w w') (k : ByteArray) :
    (clsOf k.data.toList = none ∧ (Instr.lookup 46 (.map (some b)) (.string k) true).run Tryz.prog w' = .ok (.tuple #[.nilFunc, .bool false]) w') ∨
    ∃ p f, clsOf k.data.toList = some p ∧ Cls w f p ∧ (Instr.lookup 46 (.map (some b)) (.string k) true).run Tryz.prog w' = .ok (.tuple #[f, .bool true]) w' := by
  obtain ⟨fs, h1, h2, h3⟩ := h
  rcases (h1.below hb).look k with ⟨hn, hr⟩ | ⟨j, v, hj, hv, hr⟩
  · refine .inl ⟨look_none fun p hp e => ?_, hr⟩
    refine hn ⟨p.1.toArray⟩ (List.mem_map_of_mem hp) ?_
    rw [← e]
  · have hj12 : j < 12 := by have := (List.getElem?_eq_some_iff.1 hv).1; omega
    refine .inr ⟨(clsL.getD j ([], fun _ => false)).2, v, ?_, ?_, hr⟩
    · unfold names at hj
      rw [List.getElem?_map] at hj
      obtain ⟨q, hq, e⟩ := Option.map_eq_some_iff.1 hj
      have := cls_at j hj12
      simp only [List.getD, hq, Option.getD_some] at this ⊢
      rw [← e]; exact this
    · have := h3 j hj12
      simpa only [List.getD, hv, Option.getD_some] using this

theorem any2 (p q : UInt8 → Bool) (c : UInt8) : ([p, q].any fun r => r c) = (p c || q c) := by simp
theorem any3 (p q r : UInt8 → Bool) (c : UInt8) : ([p, q, r].any fun s => s c) = (p c || (q c || r c)) := by simp
theorem cls_eq {w : World} {f : Value} {p q : UInt8 → Bool} (h : Cls w f p) (e : ∀ c, p c = q c) : Cls w f q := by
  rw [← funext e]; exact h
set_option maxHeartbeats 1000000 in
set_option maxRecDepth 100000 in
theorem classes_any (w : World) : Calls Tryz.prog 10 #[] w fun e w' => (∃ b, e = .returned (.map (some b)) ∧ w.heap.size ≤ b ∧ Named w' b) ∧ Below w.heap.size w w' := by
  have hmm := @run_makeMap Tryz.prog
  go_enter Tryz.func10, Tryz.ntmps10
  go_wp2_with fail
  refine (between_any 97 122 _).mono ?_
  rintro e w1 ⟨⟨_, rfl, hf1⟩, hb1⟩
  have gf1 := hf1
  obtain ⟨if1, cf1, rfl, _⟩ := gf1
  have kc1 : Kc w w1 := .of hb1
  have bl1 := hb1
  have Hf1_1 : Hid (Cls w1 (.func (.func if1) #[] cf1) (bt 97 122)) := hf1
  have B1 : Hid (Below w.heap.size w w1) := bl1
  clear hb1 kc1 bl1 hf1
  go_wp2_with fail
  refine (between_any 65 90 _).mono ?_
  rintro e w2 ⟨⟨_, rfl, hf2⟩, hb2⟩
  have gf2 := hf2
  obtain ⟨if2, cf2, rfl, _⟩ := gf2
  have kc2 : Kc w1 w2 := .of hb2
  have bl2 := hb2
  have Hf1_2 : Hid (Cls w2 (.func (.func if1) #[] cf1) (bt 97 122)) := (unhide Hf1_1).kc kc2
  clear Hf1_1
  have Hf2_2 : Hid (Cls w2 (.func (.func if2) #[] cf2) (bt 65 90)) := hf2
  have B2 : Hid (Below w.heap.size w w2) := (unhide B1).trans (bl2.mono (unhide B1).size)
  clear hb2 kc2 bl2 hf2 B1
  go_wp2_with fail
  refine (between_any 48 57 _).mono ?_
  rintro e w3 ⟨⟨_, rfl, hf3⟩, hb3⟩
  have gf3 := hf3
  obtain ⟨if3, cf3, rfl, _⟩ := gf3
  have kc3 : Kc w2 w3 := .of hb3
  have bl3 := hb3
  have Hf1_3 : Hid (Cls w3 (.func (.func if1) #[] cf1) (bt 97 122)) := (unhide Hf1_2).kc kc3
  have Hf2_3 : Hid (Cls w3 (.func (.func if2) #[] cf2) (bt 65 90)) := (unhide Hf2_2).kc kc3
  clear Hf1_2
  clear Hf2_2
  have Hf3_3 : Hid (Cls w3 (.func (.func if3) #[] cf3) (bt 48 57)) := hf3
  have B3 : Hid (Below w.heap.size w w3) := (unhide B2).trans (bl3.mono (unhide B2).size)
  clear hb3 kc3 bl3 hf3 B2
  go_wp2_with fail
  refine (either_any [bt 65 90, bt 97 122] _ 2 _ (Fs.two w3 _ (unhide Hf2_3) (unhide Hf1_3)) rfl (by omega)).mono ?_
  rintro e w4 ⟨⟨_, rfl, hf4⟩, hb4⟩
  have gf4 := hf4
  obtain ⟨if4, cf4, rfl, _⟩ := gf4
  have kc4 : Kc w3 w4 := (Kc.alloc w3 (.cells #[(.func (.func if2) #[] cf2), (.func (.func if1) #[] cf1)] 57)).trans (.of hb4)
  have bl4 : Below w3.heap.size w3 w4 := ((Below.refl w3.heap.size w3).alloc (Nat.le_refl _) (.cells #[(.func (.func if2) #[] cf2), (.func (.func if1) #[] cf1)] 57)).trans (hb4.mono (by simp))
  have Hf1_4 : Hid (Cls w4 (.func (.func if1) #[] cf1) (bt 97 122)) := (unhide Hf1_3).kc kc4
  have Hf2_4 : Hid (Cls w4 (.func (.func if2) #[] cf2) (bt 65 90)) := (unhide Hf2_3).kc kc4
  have Hf3_4 : Hid (Cls w4 (.func (.func if3) #[] cf3) (bt 48 57)) := (unhide Hf3_3).kc kc4
  clear Hf1_3
  clear Hf2_3
  clear Hf3_3
  have Hf4_4 : Hid (Cls w4 (.func (.func if4) #[] cf4) (fun c => [bt 65 90, bt 97 122].any fun p => p c)) := hf4
  have B4 : Hid (Below w.heap.size w w4) := (unhide B3).trans (bl4.mono (unhide B3).size)
  clear hb4 kc4 bl4 hf4 B3
  go_wp2_with fail
  refine (either_any [bt 48 57, fun c => [bt 65 90, bt 97 122].any fun p => p c] _ 2 _ (Fs.two w4 _ (unhide Hf3_4) (unhide Hf4_4)) rfl (by omega)).mono ?_
  rintro e w5 ⟨⟨_, rfl, hf5⟩, hb5⟩
  have gf5 := hf5
  obtain ⟨if5, cf5, rfl, _⟩ := gf5
  have kc5 : Kc w4 w5 := (Kc.alloc w4 (.cells #[(.func (.func if3) #[] cf3), (.func (.func if4) #[] cf4)] 57)).trans (.of hb5)
  have bl5 : Below w4.heap.size w4 w5 := ((Below.refl w4.heap.size w4).alloc (Nat.le_refl _) (.cells #[(.func (.func if3) #[] cf3), (.func (.func if4) #[] cf4)] 57)).trans (hb5.mono (by simp))
  have Hf1_5 : Hid (Cls w5 (.func (.func if1) #[] cf1) (bt 97 122)) := (unhide Hf1_4).kc kc5
  have Hf2_5 : Hid (Cls w5 (.func (.func if2) #[] cf2) (bt 65 90)) := (unhide Hf2_4).kc kc5
  have Hf3_5 : Hid (Cls w5 (.func (.func if3) #[] cf3) (bt 48 57)) := (unhide Hf3_4).kc kc5
  have Hf4_5 : Hid (Cls w5 (.func (.func if4) #[] cf4) (fun c => [bt 65 90, bt 97 122].any fun p => p c)) := (unhide Hf4_4).kc kc5
  clear Hf1_4
  clear Hf2_4
  clear Hf3_4
  clear Hf4_4
  have Hf5_5 : Hid (Cls w5 (.func (.func if5) #[] cf5) (fun c => [bt 48 57, fun c => [bt 65 90, bt 97 122].any fun p => p c].any fun p => p c)) := hf5
  have B5 : Hid (Below w.heap.size w w5) := (unhide B4).trans (bl5.mono (unhide B4).size)
  clear hb5 kc5 bl5 hf5 B4
  go_wp2_with fail
  refine (between_any 33 126 _).mono ?_
  rintro e w6 ⟨⟨_, rfl, hf6⟩, hb6⟩
  have gf6 := hf6
  obtain ⟨if6, cf6, rfl, _⟩ := gf6
  have kc6 : Kc w5 w6 := .of hb6
  have bl6 := hb6
  have Hf1_6 : Hid (Cls w6 (.func (.func if1) #[] cf1) (bt 97 122)) := (unhide Hf1_5).kc kc6
  have Hf2_6 : Hid (Cls w6 (.func (.func if2) #[] cf2) (bt 65 90)) := (unhide Hf2_5).kc kc6
  have Hf3_6 : Hid (Cls w6 (.func (.func if3) #[] cf3) (bt 48 57)) := (unhide Hf3_5).kc kc6
  have Hf4_6 : Hid (Cls w6 (.func (.func if4) #[] cf4) (fun c => [bt 65 90, bt 97 122].any fun p => p c)) := (unhide Hf4_5).kc kc6
  have Hf5_6 : Hid (Cls w6 (.func (.func if5) #[] cf5) (fun c => [bt 48 57, fun c => [bt 65 90, bt 97 122].any fun p => p c].any fun p => p c)) := (unhide Hf5_5).kc kc6
  clear Hf1_5
  clear Hf2_5
  clear Hf3_5
  clear Hf4_5
  clear Hf5_5
  have Hf6_6 : Hid (Cls w6 (.func (.func if6) #[] cf6) (bt 33 126)) := hf6
  have B6 : Hid (Below w.heap.size w w6) := (unhide B5).trans (bl6.mono (unhide B5).size)
  clear hb6 kc6 bl6 hf6 B5
  go_wp2_with fail
  refine (between_any 32 32 _).mono ?_
  rintro e w7 ⟨⟨_, rfl, hf7⟩, hb7⟩
  have gf7 := hf7
  obtain ⟨if7, cf7, rfl, _⟩ := gf7
  have kc7 : Kc w6 w7 := .of hb7
  have bl7 := hb7
  have Hf1_7 : Hid (Cls w7 (.func (.func if1) #[] cf1) (bt 97 122)) := (unhide Hf1_6).kc kc7
  have Hf2_7 : Hid (Cls w7 (.func (.func if2) #[] cf2) (bt 65 90)) := (unhide Hf2_6).kc kc7
  have Hf3_7 : Hid (Cls w7 (.func (.func if3) #[] cf3) (bt 48 57)) := (unhide Hf3_6).kc kc7
  have Hf4_7 : Hid (Cls w7 (.func (.func if4) #[] cf4) (fun c => [bt 65 90, bt 97 122].any fun p => p c)) := (unhide Hf4_6).kc kc7
  have Hf5_7 : Hid (Cls w7 (.func (.func if5) #[] cf5) (fun c => [bt 48 57, fun c => [bt 65 90, bt 97 122].any fun p => p c].any fun p => p c)) := (unhide Hf5_6).kc kc7
  have Hf6_7 : Hid (Cls w7 (.func (.func if6) #[] cf6) (bt 33 126)) := (unhide Hf6_6).kc kc7
  clear Hf1_6
  clear Hf2_6
  clear Hf3_6
  clear Hf4_6
  clear Hf5_6
  clear Hf6_6
  have Hf7_7 : Hid (Cls w7 (.func (.func if7) #[] cf7) (bt 32 32)) := hf7
  have B7 : Hid (Below w.heap.size w w7) := (unhide B6).trans (bl7.mono (unhide B6).size)
  clear hb7 kc7 bl7 hf7 B6
  obtain ⟨w8, hw8⟩ : ∃ W, W = w7.alloc (.map #[] 0) := ⟨_, rfl⟩
  obtain ⟨b, hbb⟩ : ∃ b, b = w7.heap.size := ⟨_, rfl⟩
  have M8 : Hid (SM w8 b [] []) := by rw [hw8, hbb]; exact SM.made _
  have bl8 : Below w7.heap.size w7 w8 := by rw [hw8]; exact (Below.refl _ _).alloc (Nat.le_refl _) _
  have kc8 : Kc w7 w8 := .of bl8
  have Hf1_8 : Hid (Cls w8 (.func (.func if1) #[] cf1) (bt 97 122)) := (unhide Hf1_7).kc kc8
  have Hf2_8 : Hid (Cls w8 (.func (.func if2) #[] cf2) (bt 65 90)) := (unhide Hf2_7).kc kc8
  have Hf3_8 : Hid (Cls w8 (.func (.func if3) #[] cf3) (bt 48 57)) := (unhide Hf3_7).kc kc8
  have Hf4_8 : Hid (Cls w8 (.func (.func if4) #[] cf4) (fun c => [bt 65 90, bt 97 122].any fun p => p c)) := (unhide Hf4_7).kc kc8
  have Hf5_8 : Hid (Cls w8 (.func (.func if5) #[] cf5) (fun c => [bt 48 57, fun c => [bt 65 90, bt 97 122].any fun p => p c].any fun p => p c)) := (unhide Hf5_7).kc kc8
  have Hf6_8 : Hid (Cls w8 (.func (.func if6) #[] cf6) (bt 33 126)) := (unhide Hf6_7).kc kc8
  have Hf7_8 : Hid (Cls w8 (.func (.func if7) #[] cf7) (bt 32 32)) := (unhide Hf7_7).kc kc8
  clear Hf1_7
  clear Hf2_7
  clear Hf3_7
  clear Hf4_7
  clear Hf5_7
  clear Hf6_7
  clear Hf7_7
  have B8 : Hid (Below w.heap.size w w8) := (unhide B7).trans (bl8.mono (unhide B7).size)
  have hwb : w.heap.size ≤ b := by rw [hbb]; exact (unhide B7).size
  have hmk : (Instr.makeMap 46 none).run Tryz.prog w7 = .ok (.map (some b)) w8 := by rw [hw8, hbb]; exact hmm _ _
  clear bl8 kc8 B7 hw8 hbb hmm
  obtain ⟨w9, hr9, M9, kc9, bl9⟩ := (unhide M8).update { data := #[97, 108, 112, 104, 97] } (.func (.func if4) #[] cf4) (by decide)
  have M9 := hide M9
  have Hf1_9 : Hid (Cls w9 (.func (.func if1) #[] cf1) (bt 97 122)) := (unhide Hf1_8).kc kc9
  have Hf2_9 : Hid (Cls w9 (.func (.func if2) #[] cf2) (bt 65 90)) := (unhide Hf2_8).kc kc9
  have Hf3_9 : Hid (Cls w9 (.func (.func if3) #[] cf3) (bt 48 57)) := (unhide Hf3_8).kc kc9
  have Hf4_9 : Hid (Cls w9 (.func (.func if4) #[] cf4) (fun c => [bt 65 90, bt 97 122].any fun p => p c)) := (unhide Hf4_8).kc kc9
  have Hf5_9 : Hid (Cls w9 (.func (.func if5) #[] cf5) (fun c => [bt 48 57, fun c => [bt 65 90, bt 97 122].any fun p => p c].any fun p => p c)) := (unhide Hf5_8).kc kc9
  have Hf6_9 : Hid (Cls w9 (.func (.func if6) #[] cf6) (bt 33 126)) := (unhide Hf6_8).kc kc9
  have Hf7_9 : Hid (Cls w9 (.func (.func if7) #[] cf7) (bt 32 32)) := (unhide Hf7_8).kc kc9
  clear Hf1_8
  clear Hf2_8
  clear Hf3_8
  clear Hf4_8
  clear Hf5_8
  clear Hf6_8
  clear Hf7_8
  have B9 : Hid (Below w.heap.size w w9) := (unhide B8).trans (bl9 _ hwb)
  clear kc9 bl9 B8 M8
  obtain ⟨w10, hr10, M10, kc10, bl10⟩ := (unhide M9).update { data := #[97, 108, 110, 117, 109] } (.func (.func if5) #[] cf5) (by decide)
  have M10 := hide M10
  have Hf1_10 : Hid (Cls w10 (.func (.func if1) #[] cf1) (bt 97 122)) := (unhide Hf1_9).kc kc10
  have Hf2_10 : Hid (Cls w10 (.func (.func if2) #[] cf2) (bt 65 90)) := (unhide Hf2_9).kc kc10
  have Hf3_10 : Hid (Cls w10 (.func (.func if3) #[] cf3) (bt 48 57)) := (unhide Hf3_9).kc kc10
  have Hf4_10 : Hid (Cls w10 (.func (.func if4) #[] cf4) (fun c => [bt 65 90, bt 97 122].any fun p => p c)) := (unhide Hf4_9).kc kc10
  have Hf5_10 : Hid (Cls w10 (.func (.func if5) #[] cf5) (fun c => [bt 48 57, fun c => [bt 65 90, bt 97 122].any fun p => p c].any fun p => p c)) := (unhide Hf5_9).kc kc10
  have Hf6_10 : Hid (Cls w10 (.func (.func if6) #[] cf6) (bt 33 126)) := (unhide Hf6_9).kc kc10
  have Hf7_10 : Hid (Cls w10 (.func (.func if7) #[] cf7) (bt 32 32)) := (unhide Hf7_9).kc kc10
  clear Hf1_9
  clear Hf2_9
  clear Hf3_9
  clear Hf4_9
  clear Hf5_9
  clear Hf6_9
  clear Hf7_9
  have B10 : Hid (Below w.heap.size w w10) := (unhide B9).trans (bl10 _ hwb)
  clear kc10 bl10 B9 M9
  go_wp2_with fail
  refine (between_any 9 9 _).mono ?_
  rintro e w11 ⟨⟨_, rfl, hf8⟩, hb11⟩
  have gf8 := hf8
  obtain ⟨if8, cf8, rfl, _⟩ := gf8
  have kc11 : Kc w10 w11 := .of hb11
  have bl11 := hb11
  have Hf1_11 : Hid (Cls w11 (.func (.func if1) #[] cf1) (bt 97 122)) := (unhide Hf1_10).kc kc11
  have Hf2_11 : Hid (Cls w11 (.func (.func if2) #[] cf2) (bt 65 90)) := (unhide Hf2_10).kc kc11
  have Hf3_11 : Hid (Cls w11 (.func (.func if3) #[] cf3) (bt 48 57)) := (unhide Hf3_10).kc kc11
  have Hf4_11 : Hid (Cls w11 (.func (.func if4) #[] cf4) (fun c => [bt 65 90, bt 97 122].any fun p => p c)) := (unhide Hf4_10).kc kc11
  have Hf5_11 : Hid (Cls w11 (.func (.func if5) #[] cf5) (fun c => [bt 48 57, fun c => [bt 65 90, bt 97 122].any fun p => p c].any fun p => p c)) := (unhide Hf5_10).kc kc11
  have Hf6_11 : Hid (Cls w11 (.func (.func if6) #[] cf6) (bt 33 126)) := (unhide Hf6_10).kc kc11
  have Hf7_11 : Hid (Cls w11 (.func (.func if7) #[] cf7) (bt 32 32)) := (unhide Hf7_10).kc kc11
  clear Hf1_10
  clear Hf2_10
  clear Hf3_10
  clear Hf4_10
  clear Hf5_10
  clear Hf6_10
  clear Hf7_10
  have Hf8_11 : Hid (Cls w11 (.func (.func if8) #[] cf8) (bt 9 9)) := hf8
  have B11 : Hid (Below w.heap.size w w11) := (unhide B10).trans (bl11.mono (unhide B10).size)
  have M11 : Hid (SM w11 b _ _) := (unhide M10).below bl11
  clear M10
  clear hb11 kc11 bl11 hf8 B10
  go_wp2_with fail
  refine (either_any [bt 9 9, bt 32 32] _ 2 _ (Fs.two w11 _ (unhide Hf8_11) (unhide Hf7_11)) rfl (by omega)).mono ?_
  rintro e w12 ⟨⟨_, rfl, hf9⟩, hb12⟩
  have gf9 := hf9
  obtain ⟨if9, cf9, rfl, _⟩ := gf9
  have kc12 : Kc w11 w12 := (Kc.alloc w11 (.cells #[(.func (.func if8) #[] cf8), (.func (.func if7) #[] cf7)] 57)).trans (.of hb12)
  have bl12 : Below w11.heap.size w11 w12 := ((Below.refl w11.heap.size w11).alloc (Nat.le_refl _) (.cells #[(.func (.func if8) #[] cf8), (.func (.func if7) #[] cf7)] 57)).trans (hb12.mono (by simp))
  have Hf1_12 : Hid (Cls w12 (.func (.func if1) #[] cf1) (bt 97 122)) := (unhide Hf1_11).kc kc12
  have Hf2_12 : Hid (Cls w12 (.func (.func if2) #[] cf2) (bt 65 90)) := (unhide Hf2_11).kc kc12
  have Hf3_12 : Hid (Cls w12 (.func (.func if3) #[] cf3) (bt 48 57)) := (unhide Hf3_11).kc kc12
  have Hf4_12 : Hid (Cls w12 (.func (.func if4) #[] cf4) (fun c => [bt 65 90, bt 97 122].any fun p => p c)) := (unhide Hf4_11).kc kc12
  have Hf5_12 : Hid (Cls w12 (.func (.func if5) #[] cf5) (fun c => [bt 48 57, fun c => [bt 65 90, bt 97 122].any fun p => p c].any fun p => p c)) := (unhide Hf5_11).kc kc12
  have Hf6_12 : Hid (Cls w12 (.func (.func if6) #[] cf6) (bt 33 126)) := (unhide Hf6_11).kc kc12
  have Hf7_12 : Hid (Cls w12 (.func (.func if7) #[] cf7) (bt 32 32)) := (unhide Hf7_11).kc kc12
  have Hf8_12 : Hid (Cls w12 (.func (.func if8) #[] cf8) (bt 9 9)) := (unhide Hf8_11).kc kc12
  clear Hf1_11
  clear Hf2_11
  clear Hf3_11
  clear Hf4_11
  clear Hf5_11
  clear Hf6_11
  clear Hf7_11
  clear Hf8_11
  have Hf9_12 : Hid (Cls w12 (.func (.func if9) #[] cf9) (fun c => [bt 9 9, bt 32 32].any fun p => p c)) := hf9
  have B12 : Hid (Below w.heap.size w w12) := (unhide B11).trans (bl12.mono (unhide B11).size)
  have M12 : Hid (SM w12 b _ _) := (unhide M11).below bl12
  clear M11
  clear hb12 kc12 bl12 hf9 B11
  obtain ⟨w13, hr13, M13, kc13, bl13⟩ := (unhide M12).update { data := #[98, 108, 97, 110, 107] } (.func (.func if9) #[] cf9) (by decide)
  have M13 := hide M13
  have Hf1_13 : Hid (Cls w13 (.func (.func if1) #[] cf1) (bt 97 122)) := (unhide Hf1_12).kc kc13
  have Hf2_13 : Hid (Cls w13 (.func (.func if2) #[] cf2) (bt 65 90)) := (unhide Hf2_12).kc kc13
  have Hf3_13 : Hid (Cls w13 (.func (.func if3) #[] cf3) (bt 48 57)) := (unhide Hf3_12).kc kc13
  have Hf4_13 : Hid (Cls w13 (.func (.func if4) #[] cf4) (fun c => [bt 65 90, bt 97 122].any fun p => p c)) := (unhide Hf4_12).kc kc13
  have Hf5_13 : Hid (Cls w13 (.func (.func if5) #[] cf5) (fun c => [bt 48 57, fun c => [bt 65 90, bt 97 122].any fun p => p c].any fun p => p c)) := (unhide Hf5_12).kc kc13
  have Hf6_13 : Hid (Cls w13 (.func (.func if6) #[] cf6) (bt 33 126)) := (unhide Hf6_12).kc kc13
  have Hf7_13 : Hid (Cls w13 (.func (.func if7) #[] cf7) (bt 32 32)) := (unhide Hf7_12).kc kc13
  have Hf8_13 : Hid (Cls w13 (.func (.func if8) #[] cf8) (bt 9 9)) := (unhide Hf8_12).kc kc13
  have Hf9_13 : Hid (Cls w13 (.func (.func if9) #[] cf9) (fun c => [bt 9 9, bt 32 32].any fun p => p c)) := (unhide Hf9_12).kc kc13
  clear Hf1_12
  clear Hf2_12
  clear Hf3_12
  clear Hf4_12
  clear Hf5_12
  clear Hf6_12
  clear Hf7_12
  clear Hf8_12
  clear Hf9_12
  have B13 : Hid (Below w.heap.size w w13) := (unhide B12).trans (bl13 _ hwb)
  clear kc13 bl13 B12 M12
  go_wp2_with fail
  refine (between_any 0 31 _).mono ?_
  rintro e w14 ⟨⟨_, rfl, hf10⟩, hb14⟩
  have gf10 := hf10
  obtain ⟨if10, cf10, rfl, _⟩ := gf10
  have kc14 : Kc w13 w14 := .of hb14
  have bl14 := hb14
  have Hf1_14 : Hid (Cls w14 (.func (.func if1) #[] cf1) (bt 97 122)) := (unhide Hf1_13).kc kc14
  have Hf2_14 : Hid (Cls w14 (.func (.func if2) #[] cf2) (bt 65 90)) := (unhide Hf2_13).kc kc14
  have Hf3_14 : Hid (Cls w14 (.func (.func if3) #[] cf3) (bt 48 57)) := (unhide Hf3_13).kc kc14
  have Hf4_14 : Hid (Cls w14 (.func (.func if4) #[] cf4) (fun c => [bt 65 90, bt 97 122].any fun p => p c)) := (unhide Hf4_13).kc kc14
  have Hf5_14 : Hid (Cls w14 (.func (.func if5) #[] cf5) (fun c => [bt 48 57, fun c => [bt 65 90, bt 97 122].any fun p => p c].any fun p => p c)) := (unhide Hf5_13).kc kc14
  have Hf6_14 : Hid (Cls w14 (.func (.func if6) #[] cf6) (bt 33 126)) := (unhide Hf6_13).kc kc14
  have Hf7_14 : Hid (Cls w14 (.func (.func if7) #[] cf7) (bt 32 32)) := (unhide Hf7_13).kc kc14
  have Hf8_14 : Hid (Cls w14 (.func (.func if8) #[] cf8) (bt 9 9)) := (unhide Hf8_13).kc kc14
  have Hf9_14 : Hid (Cls w14 (.func (.func if9) #[] cf9) (fun c => [bt 9 9, bt 32 32].any fun p => p c)) := (unhide Hf9_13).kc kc14
  clear Hf1_13
  clear Hf2_13
  clear Hf3_13
  clear Hf4_13
  clear Hf5_13
  clear Hf6_13
  clear Hf7_13
  clear Hf8_13
  clear Hf9_13
  have Hf10_14 : Hid (Cls w14 (.func (.func if10) #[] cf10) (bt 0 31)) := hf10
  have B14 : Hid (Below w.heap.size w w14) := (unhide B13).trans (bl14.mono (unhide B13).size)
  have M14 : Hid (SM w14 b _ _) := (unhide M13).below bl14
  clear M13
  clear hb14 kc14 bl14 hf10 B13
  go_wp2_with fail
  refine (between_any 127 127 _).mono ?_
  rintro e w15 ⟨⟨_, rfl, hf11⟩, hb15⟩
  have gf11 := hf11
  obtain ⟨if11, cf11, rfl, _⟩ := gf11
  have kc15 : Kc w14 w15 := .of hb15
  have bl15 := hb15
  have Hf1_15 : Hid (Cls w15 (.func (.func if1) #[] cf1) (bt 97 122)) := (unhide Hf1_14).kc kc15
  have Hf2_15 : Hid (Cls w15 (.func (.func if2) #[] cf2) (bt 65 90)) := (unhide Hf2_14).kc kc15
  have Hf3_15 : Hid (Cls w15 (.func (.func if3) #[] cf3) (bt 48 57)) := (unhide Hf3_14).kc kc15
  have Hf4_15 : Hid (Cls w15 (.func (.func if4) #[] cf4) (fun c => [bt 65 90, bt 97 122].any fun p => p c)) := (unhide Hf4_14).kc kc15
  have Hf5_15 : Hid (Cls w15 (.func (.func if5) #[] cf5) (fun c => [bt 48 57, fun c => [bt 65 90, bt 97 122].any fun p => p c].any fun p => p c)) := (unhide Hf5_14).kc kc15
  have Hf6_15 : Hid (Cls w15 (.func (.func if6) #[] cf6) (bt 33 126)) := (unhide Hf6_14).kc kc15
  have Hf7_15 : Hid (Cls w15 (.func (.func if7) #[] cf7) (bt 32 32)) := (unhide Hf7_14).kc kc15
  have Hf8_15 : Hid (Cls w15 (.func (.func if8) #[] cf8) (bt 9 9)) := (unhide Hf8_14).kc kc15
  have Hf9_15 : Hid (Cls w15 (.func (.func if9) #[] cf9) (fun c => [bt 9 9, bt 32 32].any fun p => p c)) := (unhide Hf9_14).kc kc15
  have Hf10_15 : Hid (Cls w15 (.func (.func if10) #[] cf10) (bt 0 31)) := (unhide Hf10_14).kc kc15
  clear Hf1_14
  clear Hf2_14
  clear Hf3_14
  clear Hf4_14
  clear Hf5_14
  clear Hf6_14
  clear Hf7_14
  clear Hf8_14
  clear Hf9_14
  clear Hf10_14
  have Hf11_15 : Hid (Cls w15 (.func (.func if11) #[] cf11) (bt 127 127)) := hf11
  have B15 : Hid (Below w.heap.size w w15) := (unhide B14).trans (bl15.mono (unhide B14).size)
  have M15 : Hid (SM w15 b _ _) := (unhide M14).below bl15
  clear M14
  clear hb15 kc15 bl15 hf11 B14
  go_wp2_with fail
  refine (either_any [bt 0 31, bt 127 127] _ 2 _ (Fs.two w15 _ (unhide Hf10_15) (unhide Hf11_15)) rfl (by omega)).mono ?_
  rintro e w16 ⟨⟨_, rfl, hf12⟩, hb16⟩
  have gf12 := hf12
  obtain ⟨if12, cf12, rfl, _⟩ := gf12
  have kc16 : Kc w15 w16 := (Kc.alloc w15 (.cells #[(.func (.func if10) #[] cf10), (.func (.func if11) #[] cf11)] 57)).trans (.of hb16)
  have bl16 : Below w15.heap.size w15 w16 := ((Below.refl w15.heap.size w15).alloc (Nat.le_refl _) (.cells #[(.func (.func if10) #[] cf10), (.func (.func if11) #[] cf11)] 57)).trans (hb16.mono (by simp))
  have Hf1_16 : Hid (Cls w16 (.func (.func if1) #[] cf1) (bt 97 122)) := (unhide Hf1_15).kc kc16
  have Hf2_16 : Hid (Cls w16 (.func (.func if2) #[] cf2) (bt 65 90)) := (unhide Hf2_15).kc kc16
  have Hf3_16 : Hid (Cls w16 (.func (.func if3) #[] cf3) (bt 48 57)) := (unhide Hf3_15).kc kc16
  have Hf4_16 : Hid (Cls w16 (.func (.func if4) #[] cf4) (fun c => [bt 65 90, bt 97 122].any fun p => p c)) := (unhide Hf4_15).kc kc16
  have Hf5_16 : Hid (Cls w16 (.func (.func if5) #[] cf5) (fun c => [bt 48 57, fun c => [bt 65 90, bt 97 122].any fun p => p c].any fun p => p c)) := (unhide Hf5_15).kc kc16
  have Hf6_16 : Hid (Cls w16 (.func (.func if6) #[] cf6) (bt 33 126)) := (unhide Hf6_15).kc kc16
  have Hf7_16 : Hid (Cls w16 (.func (.func if7) #[] cf7) (bt 32 32)) := (unhide Hf7_15).kc kc16
  have Hf8_16 : Hid (Cls w16 (.func (.func if8) #[] cf8) (bt 9 9)) := (unhide Hf8_15).kc kc16
  have Hf9_16 : Hid (Cls w16 (.func (.func if9) #[] cf9) (fun c => [bt 9 9, bt 32 32].any fun p => p c)) := (unhide Hf9_15).kc kc16
  have Hf10_16 : Hid (Cls w16 (.func (.func if10) #[] cf10) (bt 0 31)) := (unhide Hf10_15).kc kc16
  have Hf11_16 : Hid (Cls w16 (.func (.func if11) #[] cf11) (bt 127 127)) := (unhide Hf11_15).kc kc16
  clear Hf1_15
  clear Hf2_15
  clear Hf3_15
  clear Hf4_15
  clear Hf5_15
  clear Hf6_15
  clear Hf7_15
  clear Hf8_15
  clear Hf9_15
  clear Hf10_15
  clear Hf11_15
  have Hf12_16 : Hid (Cls w16 (.func (.func if12) #[] cf12) (fun c => [bt 0 31, bt 127 127].any fun p => p c)) := hf12
  have B16 : Hid (Below w.heap.size w w16) := (unhide B15).trans (bl16.mono (unhide B15).size)
  have M16 : Hid (SM w16 b _ _) := (unhide M15).below bl16
  clear M15
  clear hb16 kc16 bl16 hf12 B15
  obtain ⟨w17, hr17, M17, kc17, bl17⟩ := (unhide M16).update { data := #[99, 110, 116, 114, 108] } (.func (.func if12) #[] cf12) (by decide)
  have M17 := hide M17
  have Hf1_17 : Hid (Cls w17 (.func (.func if1) #[] cf1) (bt 97 122)) := (unhide Hf1_16).kc kc17
  have Hf2_17 : Hid (Cls w17 (.func (.func if2) #[] cf2) (bt 65 90)) := (unhide Hf2_16).kc kc17
  have Hf3_17 : Hid (Cls w17 (.func (.func if3) #[] cf3) (bt 48 57)) := (unhide Hf3_16).kc kc17
  have Hf4_17 : Hid (Cls w17 (.func (.func if4) #[] cf4) (fun c => [bt 65 90, bt 97 122].any fun p => p c)) := (unhide Hf4_16).kc kc17
  have Hf5_17 : Hid (Cls w17 (.func (.func if5) #[] cf5) (fun c => [bt 48 57, fun c => [bt 65 90, bt 97 122].any fun p => p c].any fun p => p c)) := (unhide Hf5_16).kc kc17
  have Hf6_17 : Hid (Cls w17 (.func (.func if6) #[] cf6) (bt 33 126)) := (unhide Hf6_16).kc kc17
  have Hf7_17 : Hid (Cls w17 (.func (.func if7) #[] cf7) (bt 32 32)) := (unhide Hf7_16).kc kc17
  have Hf8_17 : Hid (Cls w17 (.func (.func if8) #[] cf8) (bt 9 9)) := (unhide Hf8_16).kc kc17
  have Hf9_17 : Hid (Cls w17 (.func (.func if9) #[] cf9) (fun c => [bt 9 9, bt 32 32].any fun p => p c)) := (unhide Hf9_16).kc kc17
  have Hf10_17 : Hid (Cls w17 (.func (.func if10) #[] cf10) (bt 0 31)) := (unhide Hf10_16).kc kc17
  have Hf11_17 : Hid (Cls w17 (.func (.func if11) #[] cf11) (bt 127 127)) := (unhide Hf11_16).kc kc17
  have Hf12_17 : Hid (Cls w17 (.func (.func if12) #[] cf12) (fun c => [bt 0 31, bt 127 127].any fun p => p c)) := (unhide Hf12_16).kc kc17
  clear Hf1_16
  clear Hf2_16
  clear Hf3_16
  clear Hf4_16
  clear Hf5_16
  clear Hf6_16
  clear Hf7_16
  clear Hf8_16
  clear Hf9_16
  clear Hf10_16
  clear Hf11_16
  clear Hf12_16
  have B17 : Hid (Below w.heap.size w w17) := (unhide B16).trans (bl17 _ hwb)
  clear kc17 bl17 B16 M16
  obtain ⟨w18, hr18, M18, kc18, bl18⟩ := (unhide M17).update { data := #[100, 105, 103, 105, 116] } (.func (.func if3) #[] cf3) (by decide)
  have M18 := hide M18
  have Hf1_18 : Hid (Cls w18 (.func (.func if1) #[] cf1) (bt 97 122)) := (unhide Hf1_17).kc kc18
  have Hf2_18 : Hid (Cls w18 (.func (.func if2) #[] cf2) (bt 65 90)) := (unhide Hf2_17).kc kc18
  have Hf3_18 : Hid (Cls w18 (.func (.func if3) #[] cf3) (bt 48 57)) := (unhide Hf3_17).kc kc18
  have Hf4_18 : Hid (Cls w18 (.func (.func if4) #[] cf4) (fun c => [bt 65 90, bt 97 122].any fun p => p c)) := (unhide Hf4_17).kc kc18
  have Hf5_18 : Hid (Cls w18 (.func (.func if5) #[] cf5) (fun c => [bt 48 57, fun c => [bt 65 90, bt 97 122].any fun p => p c].any fun p => p c)) := (unhide Hf5_17).kc kc18
  have Hf6_18 : Hid (Cls w18 (.func (.func if6) #[] cf6) (bt 33 126)) := (unhide Hf6_17).kc kc18
  have Hf7_18 : Hid (Cls w18 (.func (.func if7) #[] cf7) (bt 32 32)) := (unhide Hf7_17).kc kc18
  have Hf8_18 : Hid (Cls w18 (.func (.func if8) #[] cf8) (bt 9 9)) := (unhide Hf8_17).kc kc18
  have Hf9_18 : Hid (Cls w18 (.func (.func if9) #[] cf9) (fun c => [bt 9 9, bt 32 32].any fun p => p c)) := (unhide Hf9_17).kc kc18
  have Hf10_18 : Hid (Cls w18 (.func (.func if10) #[] cf10) (bt 0 31)) := (unhide Hf10_17).kc kc18
  have Hf11_18 : Hid (Cls w18 (.func (.func if11) #[] cf11) (bt 127 127)) := (unhide Hf11_17).kc kc18
  have Hf12_18 : Hid (Cls w18 (.func (.func if12) #[] cf12) (fun c => [bt 0 31, bt 127 127].any fun p => p c)) := (unhide Hf12_17).kc kc18
  clear Hf1_17
  clear Hf2_17
  clear Hf3_17
  clear Hf4_17
  clear Hf5_17
  clear Hf6_17
  clear Hf7_17
  clear Hf8_17
  clear Hf9_17
  clear Hf10_17
  clear Hf11_17
  clear Hf12_17
  have B18 : Hid (Below w.heap.size w w18) := (unhide B17).trans (bl18 _ hwb)
  clear kc18 bl18 B17 M17
  obtain ⟨w19, hr19, M19, kc19, bl19⟩ := (unhide M18).update { data := #[103, 114, 97, 112, 104] } (.func (.func if6) #[] cf6) (by decide)
  have M19 := hide M19
  have Hf1_19 : Hid (Cls w19 (.func (.func if1) #[] cf1) (bt 97 122)) := (unhide Hf1_18).kc kc19
  have Hf2_19 : Hid (Cls w19 (.func (.func if2) #[] cf2) (bt 65 90)) := (unhide Hf2_18).kc kc19
  have Hf3_19 : Hid (Cls w19 (.func (.func if3) #[] cf3) (bt 48 57)) := (unhide Hf3_18).kc kc19
  have Hf4_19 : Hid (Cls w19 (.func (.func if4) #[] cf4) (fun c => [bt 65 90, bt 97 122].any fun p => p c)) := (unhide Hf4_18).kc kc19
  have Hf5_19 : Hid (Cls w19 (.func (.func if5) #[] cf5) (fun c => [bt 48 57, fun c => [bt 65 90, bt 97 122].any fun p => p c].any fun p => p c)) := (unhide Hf5_18).kc kc19
  have Hf6_19 : Hid (Cls w19 (.func (.func if6) #[] cf6) (bt 33 126)) := (unhide Hf6_18).kc kc19
  have Hf7_19 : Hid (Cls w19 (.func (.func if7) #[] cf7) (bt 32 32)) := (unhide Hf7_18).kc kc19
  have Hf8_19 : Hid (Cls w19 (.func (.func if8) #[] cf8) (bt 9 9)) := (unhide Hf8_18).kc kc19
  have Hf9_19 : Hid (Cls w19 (.func (.func if9) #[] cf9) (fun c => [bt 9 9, bt 32 32].any fun p => p c)) := (unhide Hf9_18).kc kc19
  have Hf10_19 : Hid (Cls w19 (.func (.func if10) #[] cf10) (bt 0 31)) := (unhide Hf10_18).kc kc19
  have Hf11_19 : Hid (Cls w19 (.func (.func if11) #[] cf11) (bt 127 127)) := (unhide Hf11_18).kc kc19
  have Hf12_19 : Hid (Cls w19 (.func (.func if12) #[] cf12) (fun c => [bt 0 31, bt 127 127].any fun p => p c)) := (unhide Hf12_18).kc kc19
  clear Hf1_18
  clear Hf2_18
  clear Hf3_18
  clear Hf4_18
  clear Hf5_18
  clear Hf6_18
  clear Hf7_18
  clear Hf8_18
  clear Hf9_18
  clear Hf10_18
  clear Hf11_18
  clear Hf12_18
  have B19 : Hid (Below w.heap.size w w19) := (unhide B18).trans (bl19 _ hwb)
  clear kc19 bl19 B18 M18
  obtain ⟨w20, hr20, M20, kc20, bl20⟩ := (unhide M19).update { data := #[108, 111, 119, 101, 114] } (.func (.func if1) #[] cf1) (by decide)
  have M20 := hide M20
  have Hf1_20 : Hid (Cls w20 (.func (.func if1) #[] cf1) (bt 97 122)) := (unhide Hf1_19).kc kc20
  have Hf2_20 : Hid (Cls w20 (.func (.func if2) #[] cf2) (bt 65 90)) := (unhide Hf2_19).kc kc20
  have Hf3_20 : Hid (Cls w20 (.func (.func if3) #[] cf3) (bt 48 57)) := (unhide Hf3_19).kc kc20
  have Hf4_20 : Hid (Cls w20 (.func (.func if4) #[] cf4) (fun c => [bt 65 90, bt 97 122].any fun p => p c)) := (unhide Hf4_19).kc kc20
  have Hf5_20 : Hid (Cls w20 (.func (.func if5) #[] cf5) (fun c => [bt 48 57, fun c => [bt 65 90, bt 97 122].any fun p => p c].any fun p => p c)) := (unhide Hf5_19).kc kc20
  have Hf6_20 : Hid (Cls w20 (.func (.func if6) #[] cf6) (bt 33 126)) := (unhide Hf6_19).kc kc20
  have Hf7_20 : Hid (Cls w20 (.func (.func if7) #[] cf7) (bt 32 32)) := (unhide Hf7_19).kc kc20
  have Hf8_20 : Hid (Cls w20 (.func (.func if8) #[] cf8) (bt 9 9)) := (unhide Hf8_19).kc kc20
  have Hf9_20 : Hid (Cls w20 (.func (.func if9) #[] cf9) (fun c => [bt 9 9, bt 32 32].any fun p => p c)) := (unhide Hf9_19).kc kc20
  have Hf10_20 : Hid (Cls w20 (.func (.func if10) #[] cf10) (bt 0 31)) := (unhide Hf10_19).kc kc20
  have Hf11_20 : Hid (Cls w20 (.func (.func if11) #[] cf11) (bt 127 127)) := (unhide Hf11_19).kc kc20
  have Hf12_20 : Hid (Cls w20 (.func (.func if12) #[] cf12) (fun c => [bt 0 31, bt 127 127].any fun p => p c)) := (unhide Hf12_19).kc kc20
  clear Hf1_19
  clear Hf2_19
  clear Hf3_19
  clear Hf4_19
  clear Hf5_19
  clear Hf6_19
  clear Hf7_19
  clear Hf8_19
  clear Hf9_19
  clear Hf10_19
  clear Hf11_19
  clear Hf12_19
  have B20 : Hid (Below w.heap.size w w20) := (unhide B19).trans (bl20 _ hwb)
  clear kc20 bl20 B19 M19
  go_wp2_with fail
  refine (either_any [bt 32 32, bt 33 126] _ 2 _ (Fs.two w20 _ (unhide Hf7_20) (unhide Hf6_20)) rfl (by omega)).mono ?_
  rintro e w21 ⟨⟨_, rfl, hf13⟩, hb21⟩
  have gf13 := hf13
  obtain ⟨if13, cf13, rfl, _⟩ := gf13
  have kc21 : Kc w20 w21 := (Kc.alloc w20 (.cells #[(.func (.func if7) #[] cf7), (.func (.func if6) #[] cf6)] 57)).trans (.of hb21)
  have bl21 : Below w20.heap.size w20 w21 := ((Below.refl w20.heap.size w20).alloc (Nat.le_refl _) (.cells #[(.func (.func if7) #[] cf7), (.func (.func if6) #[] cf6)] 57)).trans (hb21.mono (by simp))
  have Hf1_21 : Hid (Cls w21 (.func (.func if1) #[] cf1) (bt 97 122)) := (unhide Hf1_20).kc kc21
  have Hf2_21 : Hid (Cls w21 (.func (.func if2) #[] cf2) (bt 65 90)) := (unhide Hf2_20).kc kc21
  have Hf3_21 : Hid (Cls w21 (.func (.func if3) #[] cf3) (bt 48 57)) := (unhide Hf3_20).kc kc21
  have Hf4_21 : Hid (Cls w21 (.func (.func if4) #[] cf4) (fun c => [bt 65 90, bt 97 122].any fun p => p c)) := (unhide Hf4_20).kc kc21
  have Hf5_21 : Hid (Cls w21 (.func (.func if5) #[] cf5) (fun c => [bt 48 57, fun c => [bt 65 90, bt 97 122].any fun p => p c].any fun p => p c)) := (unhide Hf5_20).kc kc21
  have Hf6_21 : Hid (Cls w21 (.func (.func if6) #[] cf6) (bt 33 126)) := (unhide Hf6_20).kc kc21
  have Hf7_21 : Hid (Cls w21 (.func (.func if7) #[] cf7) (bt 32 32)) := (unhide Hf7_20).kc kc21
  have Hf8_21 : Hid (Cls w21 (.func (.func if8) #[] cf8) (bt 9 9)) := (unhide Hf8_20).kc kc21
  have Hf9_21 : Hid (Cls w21 (.func (.func if9) #[] cf9) (fun c => [bt 9 9, bt 32 32].any fun p => p c)) := (unhide Hf9_20).kc kc21
  have Hf10_21 : Hid (Cls w21 (.func (.func if10) #[] cf10) (bt 0 31)) := (unhide Hf10_20).kc kc21
  have Hf11_21 : Hid (Cls w21 (.func (.func if11) #[] cf11) (bt 127 127)) := (unhide Hf11_20).kc kc21
  have Hf12_21 : Hid (Cls w21 (.func (.func if12) #[] cf12) (fun c => [bt 0 31, bt 127 127].any fun p => p c)) := (unhide Hf12_20).kc kc21
  clear Hf1_20
  clear Hf2_20
  clear Hf3_20
  clear Hf4_20
  clear Hf5_20
  clear Hf6_20
  clear Hf7_20
  clear Hf8_20
  clear Hf9_20
  clear Hf10_20
  clear Hf11_20
  clear Hf12_20
  have Hf13_21 : Hid (Cls w21 (.func (.func if13) #[] cf13) (fun c => [bt 32 32, bt 33 126].any fun p => p c)) := hf13
  have B21 : Hid (Below w.heap.size w w21) := (unhide B20).trans (bl21.mono (unhide B20).size)
  have M21 : Hid (SM w21 b _ _) := (unhide M20).below bl21
  clear M20
  clear hb21 kc21 bl21 hf13 B20
  obtain ⟨w22, hr22, M22, kc22, bl22⟩ := (unhide M21).update { data := #[112, 114, 105, 110, 116] } (.func (.func if13) #[] cf13) (by decide)
  have M22 := hide M22
  have Hf1_22 : Hid (Cls w22 (.func (.func if1) #[] cf1) (bt 97 122)) := (unhide Hf1_21).kc kc22
  have Hf2_22 : Hid (Cls w22 (.func (.func if2) #[] cf2) (bt 65 90)) := (unhide Hf2_21).kc kc22
  have Hf3_22 : Hid (Cls w22 (.func (.func if3) #[] cf3) (bt 48 57)) := (unhide Hf3_21).kc kc22
  have Hf4_22 : Hid (Cls w22 (.func (.func if4) #[] cf4) (fun c => [bt 65 90, bt 97 122].any fun p => p c)) := (unhide Hf4_21).kc kc22
  have Hf5_22 : Hid (Cls w22 (.func (.func if5) #[] cf5) (fun c => [bt 48 57, fun c => [bt 65 90, bt 97 122].any fun p => p c].any fun p => p c)) := (unhide Hf5_21).kc kc22
  have Hf6_22 : Hid (Cls w22 (.func (.func if6) #[] cf6) (bt 33 126)) := (unhide Hf6_21).kc kc22
  have Hf7_22 : Hid (Cls w22 (.func (.func if7) #[] cf7) (bt 32 32)) := (unhide Hf7_21).kc kc22
  have Hf8_22 : Hid (Cls w22 (.func (.func if8) #[] cf8) (bt 9 9)) := (unhide Hf8_21).kc kc22
  have Hf9_22 : Hid (Cls w22 (.func (.func if9) #[] cf9) (fun c => [bt 9 9, bt 32 32].any fun p => p c)) := (unhide Hf9_21).kc kc22
  have Hf10_22 : Hid (Cls w22 (.func (.func if10) #[] cf10) (bt 0 31)) := (unhide Hf10_21).kc kc22
  have Hf11_22 : Hid (Cls w22 (.func (.func if11) #[] cf11) (bt 127 127)) := (unhide Hf11_21).kc kc22
  have Hf12_22 : Hid (Cls w22 (.func (.func if12) #[] cf12) (fun c => [bt 0 31, bt 127 127].any fun p => p c)) := (unhide Hf12_21).kc kc22
  have Hf13_22 : Hid (Cls w22 (.func (.func if13) #[] cf13) (fun c => [bt 32 32, bt 33 126].any fun p => p c)) := (unhide Hf13_21).kc kc22
  clear Hf1_21
  clear Hf2_21
  clear Hf3_21
  clear Hf4_21
  clear Hf5_21
  clear Hf6_21
  clear Hf7_21
  clear Hf8_21
  clear Hf9_21
  clear Hf10_21
  clear Hf11_21
  clear Hf12_21
  clear Hf13_21
  have B22 : Hid (Below w.heap.size w w22) := (unhide B21).trans (bl22 _ hwb)
  clear kc22 bl22 B21 M21
  go_wp2_with fail
  refine (without_any (bt 33 126) (fun c => [bt 48 57, fun c => [bt 65 90, bt 97 122].any fun p => p c].any fun p => p c) (.func (.func if6) #[] cf6) (.func (.func if5) #[] cf5) _ (unhide Hf6_22) (unhide Hf5_22)).mono ?_
  rintro e w23 ⟨⟨_, rfl, hf14⟩, hb23⟩
  have gf14 := hf14
  obtain ⟨if14, cf14, rfl, _⟩ := gf14
  have kc23 : Kc w22 w23 := .of hb23
  have bl23 := hb23
  have Hf1_23 : Hid (Cls w23 (.func (.func if1) #[] cf1) (bt 97 122)) := (unhide Hf1_22).kc kc23
  have Hf2_23 : Hid (Cls w23 (.func (.func if2) #[] cf2) (bt 65 90)) := (unhide Hf2_22).kc kc23
  have Hf3_23 : Hid (Cls w23 (.func (.func if3) #[] cf3) (bt 48 57)) := (unhide Hf3_22).kc kc23
  have Hf4_23 : Hid (Cls w23 (.func (.func if4) #[] cf4) (fun c => [bt 65 90, bt 97 122].any fun p => p c)) := (unhide Hf4_22).kc kc23
  have Hf5_23 : Hid (Cls w23 (.func (.func if5) #[] cf5) (fun c => [bt 48 57, fun c => [bt 65 90, bt 97 122].any fun p => p c].any fun p => p c)) := (unhide Hf5_22).kc kc23
  have Hf6_23 : Hid (Cls w23 (.func (.func if6) #[] cf6) (bt 33 126)) := (unhide Hf6_22).kc kc23
  have Hf7_23 : Hid (Cls w23 (.func (.func if7) #[] cf7) (bt 32 32)) := (unhide Hf7_22).kc kc23
  have Hf8_23 : Hid (Cls w23 (.func (.func if8) #[] cf8) (bt 9 9)) := (unhide Hf8_22).kc kc23
  have Hf9_23 : Hid (Cls w23 (.func (.func if9) #[] cf9) (fun c => [bt 9 9, bt 32 32].any fun p => p c)) := (unhide Hf9_22).kc kc23
  have Hf10_23 : Hid (Cls w23 (.func (.func if10) #[] cf10) (bt 0 31)) := (unhide Hf10_22).kc kc23
  have Hf11_23 : Hid (Cls w23 (.func (.func if11) #[] cf11) (bt 127 127)) := (unhide Hf11_22).kc kc23
  have Hf12_23 : Hid (Cls w23 (.func (.func if12) #[] cf12) (fun c => [bt 0 31, bt 127 127].any fun p => p c)) := (unhide Hf12_22).kc kc23
  have Hf13_23 : Hid (Cls w23 (.func (.func if13) #[] cf13) (fun c => [bt 32 32, bt 33 126].any fun p => p c)) := (unhide Hf13_22).kc kc23
  clear Hf1_22
  clear Hf2_22
  clear Hf3_22
  clear Hf4_22
  clear Hf5_22
  clear Hf6_22
  clear Hf7_22
  clear Hf8_22
  clear Hf9_22
  clear Hf10_22
  clear Hf11_22
  clear Hf12_22
  clear Hf13_22
  have Hf14_23 : Hid (Cls w23 (.func (.func if14) #[] cf14) (fun c => (bt 33 126) c && !(fun c => [bt 48 57, fun c => [bt 65 90, bt 97 122].any fun p => p c].any fun p => p c) c)) := hf14
  have B23 : Hid (Below w.heap.size w w23) := (unhide B22).trans (bl23.mono (unhide B22).size)
  have M23 : Hid (SM w23 b _ _) := (unhide M22).below bl23
  clear M22
  clear hb23 kc23 bl23 hf14 B22
  obtain ⟨w24, hr24, M24, kc24, bl24⟩ := (unhide M23).update { data := #[112, 117, 110, 99, 116] } (.func (.func if14) #[] cf14) (by decide)
  have M24 := hide M24
  have Hf1_24 : Hid (Cls w24 (.func (.func if1) #[] cf1) (bt 97 122)) := (unhide Hf1_23).kc kc24
  have Hf2_24 : Hid (Cls w24 (.func (.func if2) #[] cf2) (bt 65 90)) := (unhide Hf2_23).kc kc24
  have Hf3_24 : Hid (Cls w24 (.func (.func if3) #[] cf3) (bt 48 57)) := (unhide Hf3_23).kc kc24
  have Hf4_24 : Hid (Cls w24 (.func (.func if4) #[] cf4) (fun c => [bt 65 90, bt 97 122].any fun p => p c)) := (unhide Hf4_23).kc kc24
  have Hf5_24 : Hid (Cls w24 (.func (.func if5) #[] cf5) (fun c => [bt 48 57, fun c => [bt 65 90, bt 97 122].any fun p => p c].any fun p => p c)) := (unhide Hf5_23).kc kc24
  have Hf6_24 : Hid (Cls w24 (.func (.func if6) #[] cf6) (bt 33 126)) := (unhide Hf6_23).kc kc24
  have Hf7_24 : Hid (Cls w24 (.func (.func if7) #[] cf7) (bt 32 32)) := (unhide Hf7_23).kc kc24
  have Hf8_24 : Hid (Cls w24 (.func (.func if8) #[] cf8) (bt 9 9)) := (unhide Hf8_23).kc kc24
  have Hf9_24 : Hid (Cls w24 (.func (.func if9) #[] cf9) (fun c => [bt 9 9, bt 32 32].any fun p => p c)) := (unhide Hf9_23).kc kc24
  have Hf10_24 : Hid (Cls w24 (.func (.func if10) #[] cf10) (bt 0 31)) := (unhide Hf10_23).kc kc24
  have Hf11_24 : Hid (Cls w24 (.func (.func if11) #[] cf11) (bt 127 127)) := (unhide Hf11_23).kc kc24
  have Hf12_24 : Hid (Cls w24 (.func (.func if12) #[] cf12) (fun c => [bt 0 31, bt 127 127].any fun p => p c)) := (unhide Hf12_23).kc kc24
  have Hf13_24 : Hid (Cls w24 (.func (.func if13) #[] cf13) (fun c => [bt 32 32, bt 33 126].any fun p => p c)) := (unhide Hf13_23).kc kc24
  have Hf14_24 : Hid (Cls w24 (.func (.func if14) #[] cf14) (fun c => (bt 33 126) c && !(fun c => [bt 48 57, fun c => [bt 65 90, bt 97 122].any fun p => p c].any fun p => p c) c)) := (unhide Hf14_23).kc kc24
  clear Hf1_23
  clear Hf2_23
  clear Hf3_23
  clear Hf4_23
  clear Hf5_23
  clear Hf6_23
  clear Hf7_23
  clear Hf8_23
  clear Hf9_23
  clear Hf10_23
  clear Hf11_23
  clear Hf12_23
  clear Hf13_23
  clear Hf14_23
  have B24 : Hid (Below w.heap.size w w24) := (unhide B23).trans (bl24 _ hwb)
  clear kc24 bl24 B23 M23
  go_wp2_with fail
  refine (between_any 9 13 _).mono ?_
  rintro e w25 ⟨⟨_, rfl, hf15⟩, hb25⟩
  have gf15 := hf15
  obtain ⟨if15, cf15, rfl, _⟩ := gf15
  have kc25 : Kc w24 w25 := .of hb25
  have bl25 := hb25
  have Hf1_25 : Hid (Cls w25 (.func (.func if1) #[] cf1) (bt 97 122)) := (unhide Hf1_24).kc kc25
  have Hf2_25 : Hid (Cls w25 (.func (.func if2) #[] cf2) (bt 65 90)) := (unhide Hf2_24).kc kc25
  have Hf3_25 : Hid (Cls w25 (.func (.func if3) #[] cf3) (bt 48 57)) := (unhide Hf3_24).kc kc25
  have Hf4_25 : Hid (Cls w25 (.func (.func if4) #[] cf4) (fun c => [bt 65 90, bt 97 122].any fun p => p c)) := (unhide Hf4_24).kc kc25
  have Hf5_25 : Hid (Cls w25 (.func (.func if5) #[] cf5) (fun c => [bt 48 57, fun c => [bt 65 90, bt 97 122].any fun p => p c].any fun p => p c)) := (unhide Hf5_24).kc kc25
  have Hf6_25 : Hid (Cls w25 (.func (.func if6) #[] cf6) (bt 33 126)) := (unhide Hf6_24).kc kc25
  have Hf7_25 : Hid (Cls w25 (.func (.func if7) #[] cf7) (bt 32 32)) := (unhide Hf7_24).kc kc25
  have Hf8_25 : Hid (Cls w25 (.func (.func if8) #[] cf8) (bt 9 9)) := (unhide Hf8_24).kc kc25
  have Hf9_25 : Hid (Cls w25 (.func (.func if9) #[] cf9) (fun c => [bt 9 9, bt 32 32].any fun p => p c)) := (unhide Hf9_24).kc kc25
  have Hf10_25 : Hid (Cls w25 (.func (.func if10) #[] cf10) (bt 0 31)) := (unhide Hf10_24).kc kc25
  have Hf11_25 : Hid (Cls w25 (.func (.func if11) #[] cf11) (bt 127 127)) := (unhide Hf11_24).kc kc25
  have Hf12_25 : Hid (Cls w25 (.func (.func if12) #[] cf12) (fun c => [bt 0 31, bt 127 127].any fun p => p c)) := (unhide Hf12_24).kc kc25
  have Hf13_25 : Hid (Cls w25 (.func (.func if13) #[] cf13) (fun c => [bt 32 32, bt 33 126].any fun p => p c)) := (unhide Hf13_24).kc kc25
  have Hf14_25 : Hid (Cls w25 (.func (.func if14) #[] cf14) (fun c => (bt 33 126) c && !(fun c => [bt 48 57, fun c => [bt 65 90, bt 97 122].any fun p => p c].any fun p => p c) c)) := (unhide Hf14_24).kc kc25
  clear Hf1_24
  clear Hf2_24
  clear Hf3_24
  clear Hf4_24
  clear Hf5_24
  clear Hf6_24
  clear Hf7_24
  clear Hf8_24
  clear Hf9_24
  clear Hf10_24
  clear Hf11_24
  clear Hf12_24
  clear Hf13_24
  clear Hf14_24
  have Hf15_25 : Hid (Cls w25 (.func (.func if15) #[] cf15) (bt 9 13)) := hf15
  have B25 : Hid (Below w.heap.size w w25) := (unhide B24).trans (bl25.mono (unhide B24).size)
  have M25 : Hid (SM w25 b _ _) := (unhide M24).below bl25
  clear M24
  clear hb25 kc25 bl25 hf15 B24
  go_wp2_with fail
  refine (either_any [bt 9 13, bt 32 32] _ 2 _ (Fs.two w25 _ (unhide Hf15_25) (unhide Hf7_25)) rfl (by omega)).mono ?_
  rintro e w26 ⟨⟨_, rfl, hf16⟩, hb26⟩
  have gf16 := hf16
  obtain ⟨if16, cf16, rfl, _⟩ := gf16
  have kc26 : Kc w25 w26 := (Kc.alloc w25 (.cells #[(.func (.func if15) #[] cf15), (.func (.func if7) #[] cf7)] 57)).trans (.of hb26)
  have bl26 : Below w25.heap.size w25 w26 := ((Below.refl w25.heap.size w25).alloc (Nat.le_refl _) (.cells #[(.func (.func if15) #[] cf15), (.func (.func if7) #[] cf7)] 57)).trans (hb26.mono (by simp))
  have Hf1_26 : Hid (Cls w26 (.func (.func if1) #[] cf1) (bt 97 122)) := (unhide Hf1_25).kc kc26
  have Hf2_26 : Hid (Cls w26 (.func (.func if2) #[] cf2) (bt 65 90)) := (unhide Hf2_25).kc kc26
  have Hf3_26 : Hid (Cls w26 (.func (.func if3) #[] cf3) (bt 48 57)) := (unhide Hf3_25).kc kc26
  have Hf4_26 : Hid (Cls w26 (.func (.func if4) #[] cf4) (fun c => [bt 65 90, bt 97 122].any fun p => p c)) := (unhide Hf4_25).kc kc26
  have Hf5_26 : Hid (Cls w26 (.func (.func if5) #[] cf5) (fun c => [bt 48 57, fun c => [bt 65 90, bt 97 122].any fun p => p c].any fun p => p c)) := (unhide Hf5_25).kc kc26
  have Hf6_26 : Hid (Cls w26 (.func (.func if6) #[] cf6) (bt 33 126)) := (unhide Hf6_25).kc kc26
  have Hf7_26 : Hid (Cls w26 (.func (.func if7) #[] cf7) (bt 32 32)) := (unhide Hf7_25).kc kc26
  have Hf8_26 : Hid (Cls w26 (.func (.func if8) #[] cf8) (bt 9 9)) := (unhide Hf8_25).kc kc26
  have Hf9_26 : Hid (Cls w26 (.func (.func if9) #[] cf9) (fun c => [bt 9 9, bt 32 32].any fun p => p c)) := (unhide Hf9_25).kc kc26
  have Hf10_26 : Hid (Cls w26 (.func (.func if10) #[] cf10) (bt 0 31)) := (unhide Hf10_25).kc kc26
  have Hf11_26 : Hid (Cls w26 (.func (.func if11) #[] cf11) (bt 127 127)) := (unhide Hf11_25).kc kc26
  have Hf12_26 : Hid (Cls w26 (.func (.func if12) #[] cf12) (fun c => [bt 0 31, bt 127 127].any fun p => p c)) := (unhide Hf12_25).kc kc26
  have Hf13_26 : Hid (Cls w26 (.func (.func if13) #[] cf13) (fun c => [bt 32 32, bt 33 126].any fun p => p c)) := (unhide Hf13_25).kc kc26
  have Hf14_26 : Hid (Cls w26 (.func (.func if14) #[] cf14) (fun c => (bt 33 126) c && !(fun c => [bt 48 57, fun c => [bt 65 90, bt 97 122].any fun p => p c].any fun p => p c) c)) := (unhide Hf14_25).kc kc26
  have Hf15_26 : Hid (Cls w26 (.func (.func if15) #[] cf15) (bt 9 13)) := (unhide Hf15_25).kc kc26
  clear Hf1_25
  clear Hf2_25
  clear Hf3_25
  clear Hf4_25
  clear Hf5_25
  clear Hf6_25
  clear Hf7_25
  clear Hf8_25
  clear Hf9_25
  clear Hf10_25
  clear Hf11_25
  clear Hf12_25
  clear Hf13_25
  clear Hf14_25
  clear Hf15_25
  have Hf16_26 : Hid (Cls w26 (.func (.func if16) #[] cf16) (fun c => [bt 9 13, bt 32 32].any fun p => p c)) := hf16
  have B26 : Hid (Below w.heap.size w w26) := (unhide B25).trans (bl26.mono (unhide B25).size)
  have M26 : Hid (SM w26 b _ _) := (unhide M25).below bl26
  clear M25
  clear hb26 kc26 bl26 hf16 B25
  obtain ⟨w27, hr27, M27, kc27, bl27⟩ := (unhide M26).update { data := #[115, 112, 97, 99, 101] } (.func (.func if16) #[] cf16) (by decide)
  have M27 := hide M27
  have Hf1_27 : Hid (Cls w27 (.func (.func if1) #[] cf1) (bt 97 122)) := (unhide Hf1_26).kc kc27
  have Hf2_27 : Hid (Cls w27 (.func (.func if2) #[] cf2) (bt 65 90)) := (unhide Hf2_26).kc kc27
  have Hf3_27 : Hid (Cls w27 (.func (.func if3) #[] cf3) (bt 48 57)) := (unhide Hf3_26).kc kc27
  have Hf4_27 : Hid (Cls w27 (.func (.func if4) #[] cf4) (fun c => [bt 65 90, bt 97 122].any fun p => p c)) := (unhide Hf4_26).kc kc27
  have Hf5_27 : Hid (Cls w27 (.func (.func if5) #[] cf5) (fun c => [bt 48 57, fun c => [bt 65 90, bt 97 122].any fun p => p c].any fun p => p c)) := (unhide Hf5_26).kc kc27
  have Hf6_27 : Hid (Cls w27 (.func (.func if6) #[] cf6) (bt 33 126)) := (unhide Hf6_26).kc kc27
  have Hf7_27 : Hid (Cls w27 (.func (.func if7) #[] cf7) (bt 32 32)) := (unhide Hf7_26).kc kc27
  have Hf8_27 : Hid (Cls w27 (.func (.func if8) #[] cf8) (bt 9 9)) := (unhide Hf8_26).kc kc27
  have Hf9_27 : Hid (Cls w27 (.func (.func if9) #[] cf9) (fun c => [bt 9 9, bt 32 32].any fun p => p c)) := (unhide Hf9_26).kc kc27
  have Hf10_27 : Hid (Cls w27 (.func (.func if10) #[] cf10) (bt 0 31)) := (unhide Hf10_26).kc kc27
  have Hf11_27 : Hid (Cls w27 (.func (.func if11) #[] cf11) (bt 127 127)) := (unhide Hf11_26).kc kc27
  have Hf12_27 : Hid (Cls w27 (.func (.func if12) #[] cf12) (fun c => [bt 0 31, bt 127 127].any fun p => p c)) := (unhide Hf12_26).kc kc27
  have Hf13_27 : Hid (Cls w27 (.func (.func if13) #[] cf13) (fun c => [bt 32 32, bt 33 126].any fun p => p c)) := (unhide Hf13_26).kc kc27
  have Hf14_27 : Hid (Cls w27 (.func (.func if14) #[] cf14) (fun c => (bt 33 126) c && !(fun c => [bt 48 57, fun c => [bt 65 90, bt 97 122].any fun p => p c].any fun p => p c) c)) := (unhide Hf14_26).kc kc27
  have Hf15_27 : Hid (Cls w27 (.func (.func if15) #[] cf15) (bt 9 13)) := (unhide Hf15_26).kc kc27
  have Hf16_27 : Hid (Cls w27 (.func (.func if16) #[] cf16) (fun c => [bt 9 13, bt 32 32].any fun p => p c)) := (unhide Hf16_26).kc kc27
  clear Hf1_26
  clear Hf2_26
  clear Hf3_26
  clear Hf4_26
  clear Hf5_26
  clear Hf6_26
  clear Hf7_26
  clear Hf8_26
  clear Hf9_26
  clear Hf10_26
  clear Hf11_26
  clear Hf12_26
  clear Hf13_26
  clear Hf14_26
  clear Hf15_26
  clear Hf16_26
  have B27 : Hid (Below w.heap.size w w27) := (unhide B26).trans (bl27 _ hwb)
  clear kc27 bl27 B26 M26
  obtain ⟨w28, hr28, M28, kc28, bl28⟩ := (unhide M27).update { data := #[117, 112, 112, 101, 114] } (.func (.func if2) #[] cf2) (by decide)
  have M28 := hide M28
  have Hf1_28 : Hid (Cls w28 (.func (.func if1) #[] cf1) (bt 97 122)) := (unhide Hf1_27).kc kc28
  have Hf2_28 : Hid (Cls w28 (.func (.func if2) #[] cf2) (bt 65 90)) := (unhide Hf2_27).kc kc28
  have Hf3_28 : Hid (Cls w28 (.func (.func if3) #[] cf3) (bt 48 57)) := (unhide Hf3_27).kc kc28
  have Hf4_28 : Hid (Cls w28 (.func (.func if4) #[] cf4) (fun c => [bt 65 90, bt 97 122].any fun p => p c)) := (unhide Hf4_27).kc kc28
  have Hf5_28 : Hid (Cls w28 (.func (.func if5) #[] cf5) (fun c => [bt 48 57, fun c => [bt 65 90, bt 97 122].any fun p => p c].any fun p => p c)) := (unhide Hf5_27).kc kc28
  have Hf6_28 : Hid (Cls w28 (.func (.func if6) #[] cf6) (bt 33 126)) := (unhide Hf6_27).kc kc28
  have Hf7_28 : Hid (Cls w28 (.func (.func if7) #[] cf7) (bt 32 32)) := (unhide Hf7_27).kc kc28
  have Hf8_28 : Hid (Cls w28 (.func (.func if8) #[] cf8) (bt 9 9)) := (unhide Hf8_27).kc kc28
  have Hf9_28 : Hid (Cls w28 (.func (.func if9) #[] cf9) (fun c => [bt 9 9, bt 32 32].any fun p => p c)) := (unhide Hf9_27).kc kc28
  have Hf10_28 : Hid (Cls w28 (.func (.func if10) #[] cf10) (bt 0 31)) := (unhide Hf10_27).kc kc28
  have Hf11_28 : Hid (Cls w28 (.func (.func if11) #[] cf11) (bt 127 127)) := (unhide Hf11_27).kc kc28
  have Hf12_28 : Hid (Cls w28 (.func (.func if12) #[] cf12) (fun c => [bt 0 31, bt 127 127].any fun p => p c)) := (unhide Hf12_27).kc kc28
  have Hf13_28 : Hid (Cls w28 (.func (.func if13) #[] cf13) (fun c => [bt 32 32, bt 33 126].any fun p => p c)) := (unhide Hf13_27).kc kc28
  have Hf14_28 : Hid (Cls w28 (.func (.func if14) #[] cf14) (fun c => (bt 33 126) c && !(fun c => [bt 48 57, fun c => [bt 65 90, bt 97 122].any fun p => p c].any fun p => p c) c)) := (unhide Hf14_27).kc kc28
  have Hf15_28 : Hid (Cls w28 (.func (.func if15) #[] cf15) (bt 9 13)) := (unhide Hf15_27).kc kc28
  have Hf16_28 : Hid (Cls w28 (.func (.func if16) #[] cf16) (fun c => [bt 9 13, bt 32 32].any fun p => p c)) := (unhide Hf16_27).kc kc28
  clear Hf1_27
  clear Hf2_27
  clear Hf3_27
  clear Hf4_27
  clear Hf5_27
  clear Hf6_27
  clear Hf7_27
  clear Hf8_27
  clear Hf9_27
  clear Hf10_27
  clear Hf11_27
  clear Hf12_27
  clear Hf13_27
  clear Hf14_27
  clear Hf15_27
  clear Hf16_27
  have B28 : Hid (Below w.heap.size w w28) := (unhide B27).trans (bl28 _ hwb)
  clear kc28 bl28 B27 M27
  go_wp2_with fail
  refine (between_any 65 70 _).mono ?_
  rintro e w29 ⟨⟨_, rfl, hf17⟩, hb29⟩
  have gf17 := hf17
  obtain ⟨if17, cf17, rfl, _⟩ := gf17
  have kc29 : Kc w28 w29 := .of hb29
  have bl29 := hb29
  have Hf1_29 : Hid (Cls w29 (.func (.func if1) #[] cf1) (bt 97 122)) := (unhide Hf1_28).kc kc29
  have Hf2_29 : Hid (Cls w29 (.func (.func if2) #[] cf2) (bt 65 90)) := (unhide Hf2_28).kc kc29
  have Hf3_29 : Hid (Cls w29 (.func (.func if3) #[] cf3) (bt 48 57)) := (unhide Hf3_28).kc kc29
  have Hf4_29 : Hid (Cls w29 (.func (.func if4) #[] cf4) (fun c => [bt 65 90, bt 97 122].any fun p => p c)) := (unhide Hf4_28).kc kc29
  have Hf5_29 : Hid (Cls w29 (.func (.func if5) #[] cf5) (fun c => [bt 48 57, fun c => [bt 65 90, bt 97 122].any fun p => p c].any fun p => p c)) := (unhide Hf5_28).kc kc29
  have Hf6_29 : Hid (Cls w29 (.func (.func if6) #[] cf6) (bt 33 126)) := (unhide Hf6_28).kc kc29
  have Hf7_29 : Hid (Cls w29 (.func (.func if7) #[] cf7) (bt 32 32)) := (unhide Hf7_28).kc kc29
  have Hf8_29 : Hid (Cls w29 (.func (.func if8) #[] cf8) (bt 9 9)) := (unhide Hf8_28).kc kc29
  have Hf9_29 : Hid (Cls w29 (.func (.func if9) #[] cf9) (fun c => [bt 9 9, bt 32 32].any fun p => p c)) := (unhide Hf9_28).kc kc29
  have Hf10_29 : Hid (Cls w29 (.func (.func if10) #[] cf10) (bt 0 31)) := (unhide Hf10_28).kc kc29
  have Hf11_29 : Hid (Cls w29 (.func (.func if11) #[] cf11) (bt 127 127)) := (unhide Hf11_28).kc kc29
  have Hf12_29 : Hid (Cls w29 (.func (.func if12) #[] cf12) (fun c => [bt 0 31, bt 127 127].any fun p => p c)) := (unhide Hf12_28).kc kc29
  have Hf13_29 : Hid (Cls w29 (.func (.func if13) #[] cf13) (fun c => [bt 32 32, bt 33 126].any fun p => p c)) := (unhide Hf13_28).kc kc29
  have Hf14_29 : Hid (Cls w29 (.func (.func if14) #[] cf14) (fun c => (bt 33 126) c && !(fun c => [bt 48 57, fun c => [bt 65 90, bt 97 122].any fun p => p c].any fun p => p c) c)) := (unhide Hf14_28).kc kc29
  have Hf15_29 : Hid (Cls w29 (.func (.func if15) #[] cf15) (bt 9 13)) := (unhide Hf15_28).kc kc29
  have Hf16_29 : Hid (Cls w29 (.func (.func if16) #[] cf16) (fun c => [bt 9 13, bt 32 32].any fun p => p c)) := (unhide Hf16_28).kc kc29
  clear Hf1_28
  clear Hf2_28
  clear Hf3_28
  clear Hf4_28
  clear Hf5_28
  clear Hf6_28
  clear Hf7_28
  clear Hf8_28
  clear Hf9_28
  clear Hf10_28
  clear Hf11_28
  clear Hf12_28
  clear Hf13_28
  clear Hf14_28
  clear Hf15_28
  clear Hf16_28
  have Hf17_29 : Hid (Cls w29 (.func (.func if17) #[] cf17) (bt 65 70)) := hf17
  have B29 : Hid (Below w.heap.size w w29) := (unhide B28).trans (bl29.mono (unhide B28).size)
  have M29 : Hid (SM w29 b _ _) := (unhide M28).below bl29
  clear M28
  clear hb29 kc29 bl29 hf17 B28
  go_wp2_with fail
  refine (between_any 97 102 _).mono ?_
  rintro e w30 ⟨⟨_, rfl, hf18⟩, hb30⟩
  have gf18 := hf18
  obtain ⟨if18, cf18, rfl, _⟩ := gf18
  have kc30 : Kc w29 w30 := .of hb30
  have bl30 := hb30
  have Hf1_30 : Hid (Cls w30 (.func (.func if1) #[] cf1) (bt 97 122)) := (unhide Hf1_29).kc kc30
  have Hf2_30 : Hid (Cls w30 (.func (.func if2) #[] cf2) (bt 65 90)) := (unhide Hf2_29).kc kc30
  have Hf3_30 : Hid (Cls w30 (.func (.func if3) #[] cf3) (bt 48 57)) := (unhide Hf3_29).kc kc30
  have Hf4_30 : Hid (Cls w30 (.func (.func if4) #[] cf4) (fun c => [bt 65 90, bt 97 122].any fun p => p c)) := (unhide Hf4_29).kc kc30
  have Hf5_30 : Hid (Cls w30 (.func (.func if5) #[] cf5) (fun c => [bt 48 57, fun c => [bt 65 90, bt 97 122].any fun p => p c].any fun p => p c)) := (unhide Hf5_29).kc kc30
  have Hf6_30 : Hid (Cls w30 (.func (.func if6) #[] cf6) (bt 33 126)) := (unhide Hf6_29).kc kc30
  have Hf7_30 : Hid (Cls w30 (.func (.func if7) #[] cf7) (bt 32 32)) := (unhide Hf7_29).kc kc30
  have Hf8_30 : Hid (Cls w30 (.func (.func if8) #[] cf8) (bt 9 9)) := (unhide Hf8_29).kc kc30
  have Hf9_30 : Hid (Cls w30 (.func (.func if9) #[] cf9) (fun c => [bt 9 9, bt 32 32].any fun p => p c)) := (unhide Hf9_29).kc kc30
  have Hf10_30 : Hid (Cls w30 (.func (.func if10) #[] cf10) (bt 0 31)) := (unhide Hf10_29).kc kc30
  have Hf11_30 : Hid (Cls w30 (.func (.func if11) #[] cf11) (bt 127 127)) := (unhide Hf11_29).kc kc30
  have Hf12_30 : Hid (Cls w30 (.func (.func if12) #[] cf12) (fun c => [bt 0 31, bt 127 127].any fun p => p c)) := (unhide Hf12_29).kc kc30
  have Hf13_30 : Hid (Cls w30 (.func (.func if13) #[] cf13) (fun c => [bt 32 32, bt 33 126].any fun p => p c)) := (unhide Hf13_29).kc kc30
  have Hf14_30 : Hid (Cls w30 (.func (.func if14) #[] cf14) (fun c => (bt 33 126) c && !(fun c => [bt 48 57, fun c => [bt 65 90, bt 97 122].any fun p => p c].any fun p => p c) c)) := (unhide Hf14_29).kc kc30
  have Hf15_30 : Hid (Cls w30 (.func (.func if15) #[] cf15) (bt 9 13)) := (unhide Hf15_29).kc kc30
  have Hf16_30 : Hid (Cls w30 (.func (.func if16) #[] cf16) (fun c => [bt 9 13, bt 32 32].any fun p => p c)) := (unhide Hf16_29).kc kc30
  have Hf17_30 : Hid (Cls w30 (.func (.func if17) #[] cf17) (bt 65 70)) := (unhide Hf17_29).kc kc30
  clear Hf1_29
  clear Hf2_29
  clear Hf3_29
  clear Hf4_29
  clear Hf5_29
  clear Hf6_29
  clear Hf7_29
  clear Hf8_29
  clear Hf9_29
  clear Hf10_29
  clear Hf11_29
  clear Hf12_29
  clear Hf13_29
  clear Hf14_29
  clear Hf15_29
  clear Hf16_29
  clear Hf17_29
  have Hf18_30 : Hid (Cls w30 (.func (.func if18) #[] cf18) (bt 97 102)) := hf18
  have B30 : Hid (Below w.heap.size w w30) := (unhide B29).trans (bl30.mono (unhide B29).size)
  have M30 : Hid (SM w30 b _ _) := (unhide M29).below bl30
  clear M29
  clear hb30 kc30 bl30 hf18 B29
  go_wp2_with fail
  refine (either_any [bt 48 57, bt 65 70, bt 97 102] _ 3 _ (Fs.three w30 _ (unhide Hf3_30) (unhide Hf17_30) (unhide Hf18_30)) rfl (by omega)).mono ?_
  rintro e w31 ⟨⟨_, rfl, hf19⟩, hb31⟩
  have gf19 := hf19
  obtain ⟨if19, cf19, rfl, _⟩ := gf19
  have kc31 : Kc w30 w31 := (Kc.alloc w30 (.cells #[(.func (.func if3) #[] cf3), (.func (.func if17) #[] cf17), (.func (.func if18) #[] cf18)] 57)).trans (.of hb31)
  have bl31 : Below w30.heap.size w30 w31 := ((Below.refl w30.heap.size w30).alloc (Nat.le_refl _) (.cells #[(.func (.func if3) #[] cf3), (.func (.func if17) #[] cf17), (.func (.func if18) #[] cf18)] 57)).trans (hb31.mono (by simp))
  have Hf1_31 : Hid (Cls w31 (.func (.func if1) #[] cf1) (bt 97 122)) := (unhide Hf1_30).kc kc31
  have Hf2_31 : Hid (Cls w31 (.func (.func if2) #[] cf2) (bt 65 90)) := (unhide Hf2_30).kc kc31
  have Hf3_31 : Hid (Cls w31 (.func (.func if3) #[] cf3) (bt 48 57)) := (unhide Hf3_30).kc kc31
  have Hf4_31 : Hid (Cls w31 (.func (.func if4) #[] cf4) (fun c => [bt 65 90, bt 97 122].any fun p => p c)) := (unhide Hf4_30).kc kc31
  have Hf5_31 : Hid (Cls w31 (.func (.func if5) #[] cf5) (fun c => [bt 48 57, fun c => [bt 65 90, bt 97 122].any fun p => p c].any fun p => p c)) := (unhide Hf5_30).kc kc31
  have Hf6_31 : Hid (Cls w31 (.func (.func if6) #[] cf6) (bt 33 126)) := (unhide Hf6_30).kc kc31
  have Hf7_31 : Hid (Cls w31 (.func (.func if7) #[] cf7) (bt 32 32)) := (unhide Hf7_30).kc kc31
  have Hf8_31 : Hid (Cls w31 (.func (.func if8) #[] cf8) (bt 9 9)) := (unhide Hf8_30).kc kc31
  have Hf9_31 : Hid (Cls w31 (.func (.func if9) #[] cf9) (fun c => [bt 9 9, bt 32 32].any fun p => p c)) := (unhide Hf9_30).kc kc31
  have Hf10_31 : Hid (Cls w31 (.func (.func if10) #[] cf10) (bt 0 31)) := (unhide Hf10_30).kc kc31
  have Hf11_31 : Hid (Cls w31 (.func (.func if11) #[] cf11) (bt 127 127)) := (unhide Hf11_30).kc kc31
  have Hf12_31 : Hid (Cls w31 (.func (.func if12) #[] cf12) (fun c => [bt 0 31, bt 127 127].any fun p => p c)) := (unhide Hf12_30).kc kc31
  have Hf13_31 : Hid (Cls w31 (.func (.func if13) #[] cf13) (fun c => [bt 32 32, bt 33 126].any fun p => p c)) := (unhide Hf13_30).kc kc31
  have Hf14_31 : Hid (Cls w31 (.func (.func if14) #[] cf14) (fun c => (bt 33 126) c && !(fun c => [bt 48 57, fun c => [bt 65 90, bt 97 122].any fun p => p c].any fun p => p c) c)) := (unhide Hf14_30).kc kc31
  have Hf15_31 : Hid (Cls w31 (.func (.func if15) #[] cf15) (bt 9 13)) := (unhide Hf15_30).kc kc31
  have Hf16_31 : Hid (Cls w31 (.func (.func if16) #[] cf16) (fun c => [bt 9 13, bt 32 32].any fun p => p c)) := (unhide Hf16_30).kc kc31
  have Hf17_31 : Hid (Cls w31 (.func (.func if17) #[] cf17) (bt 65 70)) := (unhide Hf17_30).kc kc31
  have Hf18_31 : Hid (Cls w31 (.func (.func if18) #[] cf18) (bt 97 102)) := (unhide Hf18_30).kc kc31
  clear Hf1_30
  clear Hf2_30
  clear Hf3_30
  clear Hf4_30
  clear Hf5_30
  clear Hf6_30
  clear Hf7_30
  clear Hf8_30
  clear Hf9_30
  clear Hf10_30
  clear Hf11_30
  clear Hf12_30
  clear Hf13_30
  clear Hf14_30
  clear Hf15_30
  clear Hf16_30
  clear Hf17_30
  clear Hf18_30
  have Hf19_31 : Hid (Cls w31 (.func (.func if19) #[] cf19) (fun c => [bt 48 57, bt 65 70, bt 97 102].any fun p => p c)) := hf19
  have B31 : Hid (Below w.heap.size w w31) := (unhide B30).trans (bl31.mono (unhide B30).size)
  have M31 : Hid (SM w31 b _ _) := (unhide M30).below bl31
  clear M30
  clear hb31 kc31 bl31 hf19 B30
  obtain ⟨w32, hr32, M32, kc32, bl32⟩ := (unhide M31).update { data := #[120, 100, 105, 103, 105, 116] } (.func (.func if19) #[] cf19) (by decide)
  have M32 := hide M32
  have Hf1_32 : Hid (Cls w32 (.func (.func if1) #[] cf1) (bt 97 122)) := (unhide Hf1_31).kc kc32
  have Hf2_32 : Hid (Cls w32 (.func (.func if2) #[] cf2) (bt 65 90)) := (unhide Hf2_31).kc kc32
  have Hf3_32 : Hid (Cls w32 (.func (.func if3) #[] cf3) (bt 48 57)) := (unhide Hf3_31).kc kc32
  have Hf4_32 : Hid (Cls w32 (.func (.func if4) #[] cf4) (fun c => [bt 65 90, bt 97 122].any fun p => p c)) := (unhide Hf4_31).kc kc32
  have Hf5_32 : Hid (Cls w32 (.func (.func if5) #[] cf5) (fun c => [bt 48 57, fun c => [bt 65 90, bt 97 122].any fun p => p c].any fun p => p c)) := (unhide Hf5_31).kc kc32
  have Hf6_32 : Hid (Cls w32 (.func (.func if6) #[] cf6) (bt 33 126)) := (unhide Hf6_31).kc kc32
  have Hf7_32 : Hid (Cls w32 (.func (.func if7) #[] cf7) (bt 32 32)) := (unhide Hf7_31).kc kc32
  have Hf8_32 : Hid (Cls w32 (.func (.func if8) #[] cf8) (bt 9 9)) := (unhide Hf8_31).kc kc32
  have Hf9_32 : Hid (Cls w32 (.func (.func if9) #[] cf9) (fun c => [bt 9 9, bt 32 32].any fun p => p c)) := (unhide Hf9_31).kc kc32
  have Hf10_32 : Hid (Cls w32 (.func (.func if10) #[] cf10) (bt 0 31)) := (unhide Hf10_31).kc kc32
  have Hf11_32 : Hid (Cls w32 (.func (.func if11) #[] cf11) (bt 127 127)) := (unhide Hf11_31).kc kc32
  have Hf12_32 : Hid (Cls w32 (.func (.func if12) #[] cf12) (fun c => [bt 0 31, bt 127 127].any fun p => p c)) := (unhide Hf12_31).kc kc32
  have Hf13_32 : Hid (Cls w32 (.func (.func if13) #[] cf13) (fun c => [bt 32 32, bt 33 126].any fun p => p c)) := (unhide Hf13_31).kc kc32
  have Hf14_32 : Hid (Cls w32 (.func (.func if14) #[] cf14) (fun c => (bt 33 126) c && !(fun c => [bt 48 57, fun c => [bt 65 90, bt 97 122].any fun p => p c].any fun p => p c) c)) := (unhide Hf14_31).kc kc32
  have Hf15_32 : Hid (Cls w32 (.func (.func if15) #[] cf15) (bt 9 13)) := (unhide Hf15_31).kc kc32
  have Hf16_32 : Hid (Cls w32 (.func (.func if16) #[] cf16) (fun c => [bt 9 13, bt 32 32].any fun p => p c)) := (unhide Hf16_31).kc kc32
  have Hf17_32 : Hid (Cls w32 (.func (.func if17) #[] cf17) (bt 65 70)) := (unhide Hf17_31).kc kc32
  have Hf18_32 : Hid (Cls w32 (.func (.func if18) #[] cf18) (bt 97 102)) := (unhide Hf18_31).kc kc32
  have Hf19_32 : Hid (Cls w32 (.func (.func if19) #[] cf19) (fun c => [bt 48 57, bt 65 70, bt 97 102].any fun p => p c)) := (unhide Hf19_31).kc kc32
  clear Hf1_31
  clear Hf2_31
  clear Hf3_31
  clear Hf4_31
  clear Hf5_31
  clear Hf6_31
  clear Hf7_31
  clear Hf8_31
  clear Hf9_31
  clear Hf10_31
  clear Hf11_31
  clear Hf12_31
  clear Hf13_31
  clear Hf14_31
  clear Hf15_31
  clear Hf16_31
  clear Hf17_31
  clear Hf18_31
  clear Hf19_31
  have B32 : Hid (Below w.heap.size w w32) := (unhide B31).trans (bl32 _ hwb)
  clear kc32 bl32 B31 M31
  go_wp2_with fail
  go_ret
  refine ⟨⟨b, rfl, hwb, _, unhide M32, rfl, ?_⟩, unhide B32⟩
  intro i hi
  match i, hi with
  | 0, _ => exact cls_eq (unhide Hf4_32) (fun c => any2 _ _ c)
  | 1, _ => exact cls_eq (unhide Hf5_32) (fun c => (any2 _ _ c).trans (congrArg (bt 48 57 c || ·) (any2 _ _ c)))
  | 2, _ => exact cls_eq (unhide Hf9_32) (fun c => any2 _ _ c)
  | 3, _ => exact cls_eq (unhide Hf12_32) (fun c => any2 _ _ c)
  | 4, _ => exact cls_eq (unhide Hf3_32) (fun c => rfl)
  | 5, _ => exact cls_eq (unhide Hf6_32) (fun c => rfl)
  | 6, _ => exact cls_eq (unhide Hf1_32) (fun c => rfl)
  | 7, _ => exact cls_eq (unhide Hf13_32) (fun c => any2 _ _ c)
  | 8, _ => exact cls_eq (unhide Hf14_32) (fun c => congrArg (fun x => bt 33 126 c && !x) ((any2 _ _ c).trans (congrArg (bt 48 57 c || ·) (any2 _ _ c))))
  | 9, _ => exact cls_eq (unhide Hf16_32) (fun c => any2 _ _ c)
  | 10, _ => exact cls_eq (unhide Hf2_32) (fun c => rfl)
  | 11, _ => exact cls_eq (unhide Hf19_32) (fun c => any3 _ _ _ c)
end Go.Proofs.YtjgboecifonjdaaGreatDoor.Se
