/- The law ViewsSumOne's walk. -/
import Derived.Test.YtoignkaldlohmabDoorVwAlive
import Derived.Test.YtoignkaldlohmabDoorVwConv
import Derived.Test.YtoignkaldlohmabDoorBeyond
set_option linter.unusedVariables false
namespace Go.Proofs.YtoignkaldlohmabDoor.Vw
open Go.RowKit Cu

/-- block g holds the bytes l, none of them frozen -/
def Bys (W : World) (g : Nat) (l : Bs) : Prop := ∃ C fr, W.heap[g]? = some (.cells C 5 fr) ∧ l.length ≤ fr.1 ∧ l.length ≤ C.size ∧ ∀ j (h : j < l.length), C[j]? = some (.int .u8 ((l[j]).toNat : Int))
theorem Bys.cell {W : World} {g : Nat} {l : Bs} (h : Bys W g l) (j : Nat) (hj : j < l.length) : W.cell? ⟨g, j, none⟩ = some (.int .u8 ((l[j]).toNat : Int)) := by
  obtain ⟨C, fr, hh, _, _, hC⟩ := h
  rw [cell_of_row _ _ _ _ _ _ hh, hC j hj]
theorem Bys.frozen {W : World} {g : Nat} {l : Bs} (h : Bys W g l) (j : Nat) (hj : j < l.length) : W.frozen? ⟨g, j, none⟩ = false := by
  obtain ⟨C, fr, hh, hf, _, hC⟩ := h
  simp only [World.frozen?, hh]
  have : ¬ fr.1 ≤ j := by omega
  simp [this]
theorem Bys.set {W : World} {g : Nat} {l : Bs} (h : Bys W g l) (k : Nat) (c : UInt8) : Bys (W.setCell ⟨g, k, none⟩ (.int .u8 (c.toNat : Int))) g (l.set k c) := by
  obtain ⟨C, fr, hh, hf, hs, hC⟩ := h
  refine ⟨C.setIfInBounds k (.int .u8 (c.toNat : Int)), fr, ?_, by simpa using hf, by simpa using hs, ?_⟩
  · simp [World.setCell, Array.getElem?_modify, hh]
  · intro j hj
    have hj' : j < l.length := by simpa using hj
    rw [Array.getElem?_setIfInBounds, List.getElem_set]
    by_cases e : k = j
    · subst e
      rw [if_pos rfl, if_pos (by omega), if_pos rfl]
    · rw [if_neg e, if_neg e, hC j hj']
theorem Bys.back {W : World} {g : Nat} {l : Bs} (h : Bys W g l) (n cap : Nat) (hn : n = l.length) : (convert 28 9 (.slice (some ⟨g, 0, none⟩) n cap)).run Tryd.prog W = .ok (.string (bt l)) W := by
  subst hn
  refine run_convert_bytes_back W 28 9 5 ⟨g, 0, none⟩ cap l Tryd.underlying28 Tryd.underlying5 Tryd.underlying9 ?_
  intro j hj
  rw [add_at, Nat.zero_add]
  exact h.cell j hj
theorem to_bys (x : ByteArray) (W : World) : ∃ (c : Nat) (o : Obj), (convert 9 28 (.string x)).run Tryd.prog W = .ok (.slice (some ⟨W.heap.size, 0, none⟩) x.size c) (W.alloc o).drew ∧ Bys (W.alloc o).drew W.heap.size (bs x) := by
  refine ⟨_, _, run_bytes_of_string W 9 28 5 x Tryd.underlying9 Tryd.underlying28 Tryd.underlying5, ?_⟩
  refine ⟨_, _, heap_alloc_new W _, ?_, ?_, ?_⟩
  · simp [bytesRow]
  · simp [bytesRow]
  · intro j hj
    have hj' : j < x.data.size := by simpa [bs] using hj
    unfold bytesRow
    rw [Array.getElem?_append_left (by simpa using hj')]
    simp [bs]
    exact ⟨_, Array.getElem?_eq_getElem hj', rfl⟩
theorem sum_turn (l : Bs) (k : Nat) (hk : k < l.length) (t : UInt8) (ht : ¬ t = 0) : ¬ sumP (l.set k (l[k] ^^^ t)) = sumP l := by
  intro h
  have e1 : l.set k (l[k] ^^^ t) = l.take k ++ (l[k] ^^^ t) :: l.drop (k + 1) := List.set_eq_take_append_cons_drop.trans (by rw [if_pos hk])
  have e2 : l = l.take k ++ l[k] :: l.drop (k + 1) := by simp
  have h2 : sumP (l.take k ++ (l[k] ^^^ t) :: l.drop (k + 1)) = sumP (l.take k ++ l[k] :: l.drop (k + 1)) := by rw [← e1, h]; exact congrArg sumP e2
  have := sum_one _ _ _ _ h2
  apply ht
  have h3 := congrArg (fun x => l[k] ^^^ x) this
  simpa [← UInt8.xor_assoc] using h3

set_option maxRecDepth 100000 in
set_option maxHeartbeats 1000000 in
theorem viewsSumOne_any (s : ByteArray) (at_ : Nat) (t : UInt8) (w : World) (hat : at_ < 4294967296) (hs : s.size ≤ 4611686018427387904) (hT : Tz w) :
    Calls Tryd.prog 6 #[.string s, .int .u32 (at_ : Int), .int .u8 (t.toNat : Int)] w fun e w' => e = .returned (.bool true) ∧ Below w.heap.size w w' := by
  have AL : Hid (∀ W, Below w.heap.size w W → Calls Tryd.prog 8 #[] W fun e w' => e = .returned (.bool true) ∧ Below W.heap.size W w') := fun W hW => alive_any W (hT.below hW)
  have hls : (bs s).length = s.size := rfl
  go_enter Tryd.func6, Tryd.ntmps6
  go_wp2_with fail
  refine (unhide AL _ (Below.refl _ _)).mono ?_
  rintro e w1 ⟨rfl, b1⟩
  have B1 := hide b1
  clear b1
  go_wp2_with fail
  refine (Beyond.beyond_one (s.size : Int) w1.heap.size _ (by simp) (by omega) (by omega)).mono ?_
  rintro e w' ⟨rfl, rfl⟩
  have B2 : Hid (Below w.heap.size w (w1.alloc (.cells #[.int .i64 s.size] 3))) := (unhide B1).alloc (unhide B1).size _
  generalize w1.alloc (.cells #[.int .i64 s.size] 3) = w2 at *
  clear B1
  by_cases hno : 1048576 < (s.size : Int) ∨ s.size = 0 ∨ t = 0
  · have hno' : (decide (1048576 < (s.size : Int)) || ((s.size : Int) == 0) || ((t.toNat : Int) == 0)) = true := by
      rcases hno with h | h | h
      · simp [h]
      · simp [h]
      · simp [h]
    go_wp2_with fail
    all_goals
      refine (unhide AL _ (unhide B2)).mono ?_
      rintro e w3 ⟨rfl, b3⟩
      have B3 := hide ((unhide B2).trans (b3.mono (unhide B2).size))
      clear b3 B2
      go_wp2_with fail
      go_ret
      exact ⟨rfl, unhide B3⟩
  have ht : ¬ t = 0 := fun e => hno (.inr (.inr e))
  have ht0 : ¬ (t.toNat : Int) = 0 := fun e => ht (UInt8.toNat_inj.1 (by simpa using e))
  have hd1 : decide (1048576 < (s.size : Int)) = false := by simp; omega
  have hd2 : ((s.size : Int) == 0) = false := by rw [beq_eq_false_iff_ne]; omega
  have hd3 : ((t.toNat : Int) == 0) = false := by simpa using ht0
  have hlt : (s.size : Int) ≤ 1048576 := by omega
  have h0 : ¬ (s.size : Int) = 0 := by omega
  obtain ⟨k, hk⟩ : ∃ k : Nat, k = at_ % s.size := ⟨_, rfl⟩
  have hkl : k < s.size := by rw [hk]; exact Nat.mod_lt _ (by omega)
  have hki : (at_ : Int) % (s.size : Int) = (k : Int) := by rw [hk]; exact (Int.natCast_emod _ _).symm
  have hkn : k < (bs s).length := by rw [hls]; exact hkl
  have hne : Hid (¬ sumP ((bs s).set k ((bs s)[k] ^^^ t)) = sumP (bs s)) := sum_turn (bs s) k hkn t ht
  obtain ⟨c, o, hcv, hby⟩ := to_bys s w2
  have hB3 : Hid (Below w.heap.size w (w2.alloc o).drew) := ((unhide B2).alloc (unhide B2).size o).drew
  have hsz := (unhide B2).size
  generalize (w2.alloc o).drew = w3 at *
  have hcell := hby.cell k hkn
  have hfz := hby.frozen k hkn
  have hset := hide (hby.set k ((bs s)[k] ^^^ t))
  have hxo := bits_u8 (bs s)[k] t
  have hB4 : Hid (Below w.heap.size w (w3.setCell ⟨w2.heap.size, k, none⟩ (.int .u8 (((bs s)[k] ^^^ t).toNat : Int)))) := (unhide hB3).setCell hsz _
  have hkz : (0 : Int) ≤ (k : Int) := by omega
  have hkh : (k : Int) < (s.size : Int) := by omega
  have hback := (unhide hset).back s.size c (by simp [hls])
  have hS1 := hide (fun W => sum_any s W (by omega))
  have hS2 : Hid (∀ W, Calls Tryd.prog 15 #[.string (bt ((bs s).set k ((bs s)[k] ^^^ t)))] W fun e w' => e = .returned (uv (sumP ((bs s).set k ((bs s)[k] ^^^ t)))) ∧ Below W.heap.size W w') := fun W => sum_any (bt ((bs s).set k ((bs s)[k] ^^^ t))) W (by rw [bt_len, List.length_set, hls]; omega)
  clear hset
  generalize (bs s).set k ((bs s)[k] ^^^ t) = L at *
  generalize (bs s)[k] ^^^ t = z at *
  generalize (bs s)[k] = y at *
  generalize sumP L = S1 at *
  generalize sumP (bs s) = S2 at *
  clear hk hby
  go_wp2_with fail
  simp only [hki]
  clear hki hcv hls hno
  go_wp2_with fail
  refine (unhide hS2 _).mono ?_
  rintro e w5 ⟨rfl, b5⟩
  have B5 := hide ((unhide hB4).trans (b5.mono (unhide hB4).size))
  clear b5 hB4 hS2
  go_wp2_with fail
  refine (unhide hS1 _).mono ?_
  rintro e w6 ⟨rfl, b6⟩
  have B6 := hide ((unhide B5).trans (b6.mono (unhide B5).size))
  clear b6 B5 hS1
  have hnd : ¬ (S1.toNat : Int) = (S2.toNat : Int) := fun e => unhide hne (BitVec.eq_of_toNat_eq (by omega))
  unfold uv
  go_wp2_with fail
  go_ret
  exact ⟨by simp [hnd], unhide B6⟩
end Go.Proofs.YtoignkaldlohmabDoor.Vw
