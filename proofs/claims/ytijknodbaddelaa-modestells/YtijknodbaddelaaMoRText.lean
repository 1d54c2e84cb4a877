/- What the document's Text and Octal answer. -/
import Derived.Test.YtijknodbaddelaaMoOctal
import Derived.Test.YtijknodbaddelaaMoRef
import Derived.Laws.IdiomStrings
import Derived.Lib.SlBytesConst
namespace Go.Proofs.Ytijknodbaddelaa.Mo
open Go.RowKit Go.Shelf

/-- ten bytes -/
def tb (A : Nat → UInt8) : Array Value := ((List.range 10).map fun i => Value.int .u8 ((A i).toNat : Int)).toArray
def Ar10 (w : World) (g : Nat) (A : Nat → UInt8) : Prop := w.heap[g]? = some (.cells (tb A) 5 (10, 11))
theorem tb_get (A : Nat → UInt8) (i : Nat) (h : i < 10) : (tb A)[i]? = some (.int .u8 ((A i).toNat : Int)) := by simp [tb, h]
theorem Ar10.cell {w : World} {g : Nat} {A : Nat → UInt8} (h : Ar10 w g A) (i : Nat) (hi : i < 10) : w.cell? ⟨g, i, none⟩ = some (.int .u8 ((A i).toNat : Int)) := by
  rw [cell_of_row _ _ _ _ _ _ h, tb_get _ _ hi]
theorem Ar10.frozen {w : World} {g : Nat} {A : Nat → UInt8} (h : Ar10 w g A) (i : Nat) (hi : i < 10) : w.frozen? ⟨g, i, none⟩ = false := by
  unfold Ar10 at h
  simp [World.frozen?, h]; omega
theorem Ar10.lt {w : World} {g : Nat} {A : Nat → UInt8} (h : Ar10 w g A) : g < w.heap.size := (Array.getElem?_eq_some_iff.1 h).1
theorem Ar10.set {w : World} {g : Nat} {A : Nat → UInt8} (h : Ar10 w g A) (k : Nat) (c : UInt8) : Ar10 (w.setCell ⟨g, k, none⟩ (.int .u8 (c.toNat : Int))) g (fun i => if i = k then c else A i) := by
  unfold Ar10 at h ⊢
  have e1 : (w.setCell ⟨g, k, none⟩ (.int .u8 (c.toNat : Int))).heap[g]? = some (.cells ((tb A).setIfInBounds k (.int .u8 (c.toNat : Int))) 5 (10, 11)) := by simp [World.setCell, Array.getElem?_modify, h]
  rw [e1]
  congr 2
  apply Array.ext_getElem?
  intro i
  by_cases hi : i < 10
  · rw [tb_get _ i hi, Array.getElem?_setIfInBounds]
    by_cases e : k = i
    · rw [if_pos e, if_pos (by simp [tb]; omega), if_pos e.symm]
    · rw [if_neg e, tb_get _ i hi, if_neg (fun h => e h.symm)]
  · rw [Array.getElem?_eq_none (by simp [tb]; omega), Array.getElem?_eq_none (by simp [tb]; omega)]
theorem Ar10.eq {w : World} {g : Nat} {A B : Nat → UInt8} (h : Ar10 w g A) (e : ∀ i, A i = B i) : Ar10 w g B := by rw [← funext e]; exact h
theorem Ar10.back {w : World} {g cap : Nat} {A : Nat → UInt8} (h : Ar10 w g A) : (convert 46 9 (.slice (some ⟨g, 0, none⟩) 10 cap)).run Try.prog w = .ok (.string ⟨((List.range 10).map A).toArray⟩) w := by
  have := run_convert_bytes_back (P := Try.prog) w 46 9 5 ⟨g, 0, none⟩ cap ((List.range 10).map A) Try.underlying46 Try.underlying5 Try.underlying9 (fun j hj => by
    have hj' : j < 10 := by simpa using hj
    rw [add_none, Nat.zero_add, h.cell j hj']
    simp)
  simpa using this
/-- as far as the loop has come -/
def aTo (k : UInt8) (mode : Int) (i j : Nat) : UInt8 := if j = 0 then kindP k else if j - 1 < i then sgP mode (j - 1) else signP (j - 1)
theorem aTo_end (k : UInt8) (mode : Int) : (List.range 10).map (aTo k mode 9) = textP k mode := by
  unfold textP
  rw [show List.range 10 = 0 :: (List.range 9).map (· + 1) from by decide]
  rw [List.map_cons, List.map_map]
  refine List.cons_eq_cons.2 ⟨rfl, List.map_congr_left fun i hi => ?_⟩
  have := List.mem_range.1 hi
  simp [aTo, this]
theorem cv_same (w : World) (C : Array Value) (n c : Nat) : (convert 46 46 (.slice (some ⟨w.heap.size, 0, none⟩) n c)).run Try.prog (w.alloc (.cells C 5)) = .ok (.slice (some ⟨w.heap.size, 0, none⟩) n c) (w.alloc (.cells C 5 (C.size, C.size + 1))) :=
  Lib.run_convert_bytes_const (P := Try.prog) w 46 5 C n c Try.underlying46 Try.underlying5
set_option maxHeartbeats 1000000 in
set_option maxRecDepth 100000 in
theorem rtext_any (k : UInt8) (mode : Int) (w : World) :
    Calls Try.prog 11 #[.int .u8 k.toNat, .int .i64 mode] w fun e w' => e = .returned (.string ⟨(textP k mode).toArray⟩) ∧ Below w.heap.size w w' := by
  obtain ⟨W0, HW0⟩ : ∃ W, Hid (W = w.alloc (.cells #[.int .u8 63, .int .u8 114, .int .u8 119, .int .u8 120, .int .u8 114, .int .u8 119, .int .u8 120, .int .u8 114, .int .u8 119, .int .u8 120] 5 (10, 11))) := ⟨_, rfl⟩
  have HA0 : Hid (Ar10 W0 w.heap.size (fun j => if j = 0 then 63 else signP (j - 1))) := by
    rw [unhide HW0]; exact heap_alloc_new w _
  have HB0 : Hid (Below w.heap.size w W0) := by rw [unhide HW0]; exact (Below.refl _ _).alloc (Nat.le_refl _) _
  have hcv := cv_same
  go_enter Try.func11, Try.ntmps11
  go_upto_block 0 with fail
  rw [← unhide HW0]
  clear HW0
  have f0 := (unhide HA0).frozen 0 (by decide)
  have c0 := (unhide HA0).cell 0 (by decide)
  have hlt0 := (unhide HA0).lt
  simp only [if_pos] at c0
  go_cut [10] (fun _ wx => Hid (Ar10 wx w.heap.size (aTo k mode 0)) ∧ Hid (Below w.heap.size w wx))
  case first =>
    have FIN : Hid (∀ c : UInt8, c = kindP k → Ar10 (W0.setCell ⟨w.heap.size, 0, none⟩ (.int .u8 (c.toNat : Int))) w.heap.size (aTo k mode 0) ∧ Below w.heap.size w (W0.setCell ⟨w.heap.size, 0, none⟩ (.int .u8 (c.toNat : Int)))) := by
      intro c hc
      refine ⟨((unhide HA0).set 0 c).eq fun i => ?_, (unhide HB0).setCell (p := ⟨w.heap.size, 0, none⟩) (Nat.le_refl _) _⟩
      unfold aTo
      by_cases h : i = 0
      · simp [h, hc]
      · simp [h]
    go_wp2_with fail
    · rename_i h
      have hk := unhide FIN 45 (by unfold kindP; rw [if_pos (ceq (d := 1) h)])
      go_meet
      exact ⟨hk.1, hk.2⟩
    · rename_i h1 h
      have hk := unhide FIN 100 (by unfold kindP; rw [if_neg (cne (d := 1) h1), if_pos (ceq (d := 2) h)])
      go_meet
      exact ⟨hk.1, hk.2⟩
    · rename_i h1 h2 h
      have hk := unhide FIN 108 (by unfold kindP; rw [if_neg (cne (d := 1) h1), if_neg (cne (d := 2) h2), if_pos (ceq (d := 3) h)])
      go_meet
      exact ⟨hk.1, hk.2⟩
    · rename_i h1 h2 h
      have hk : Ar10 W0 w.heap.size (aTo k mode 0) := (unhide HA0).eq fun i => by
        unfold aTo kindP; rw [if_neg (cne (d := 1) h1), if_neg (cne (d := 2) h2), if_neg (cne (d := 3) h)]
        by_cases h : i = 0 <;> simp [h]
      go_meet
      exact ⟨hk, HB0⟩
  case rest =>
    obtain ⟨HA1, HB1⟩ := hcut
    clear HA0 HB0 f0 c0 hlt0
    go_wp2_with fail
    go_loopw [6] (fun v wr => ∃ i : Nat, i ≤ 9 ∧ v = .int .i64 i ∧ Hid (Ar10 wr w.heap.size (aTo k mode i)) ∧ Hid (Below w.heap.size w wr)) (fun v _ => 9 - (intOf v).toNat)
    case atStart => exact ⟨0, by omega, rfl, HA1, HB1⟩
    case round =>
      clear HA1 HB1
      obtain ⟨i, hi, rfl, HA, HB⟩ := hrel
      have hltA := (unhide HA).lt
      by_cases hlt : i < 9
      · have hlt' : (i : Int) < 9 := by omega
        have hsub : (8 : Int) - (i : Int) = ((8 - i : Nat) : Int) := by omega
        have hfz := (unhide HA).frozen (1 + i) (by omega)
        have hcl := (unhide HA).cell (1 + i) (by omega)
        by_cases hz : mode / 2 ^ (8 - i) % 2 = 0
        · have ht : (bits .and .i64 (mode / 2 ^ (8 - i)) 1 == 0) = true := by rw [and1]; simpa using hz
          have HS : Hid (Ar10 (wr.setCell ⟨w.heap.size, 1 + i, none⟩ (.int .u8 (((45 : UInt8).toNat : Nat) : Int))) w.heap.size (aTo k mode (i + 1))) := ((unhide HA).set (1 + i) 45).eq fun j => by
            unfold aTo
            by_cases h : j = 1 + i
            · subst h; rw [if_pos rfl, if_neg (by omega), if_pos (by omega), show 1 + i - 1 = i by omega]; unfold sgP; rw [if_pos hz]
            · rw [if_neg h]
              by_cases h0 : j = 0
              · simp [h0]
              · rw [if_neg h0, if_neg h0]
                by_cases h1 : j - 1 < i
                · rw [if_pos h1, if_pos (by omega)]
                · rw [if_neg h1, if_neg (by omega)]
          clear hz
          go_wp2_with fail
          go_roundw
          case rel => exact ⟨i + 1, by omega, by go_num, HS, (unhide HB).setCell (p := ⟨w.heap.size, 1 + i, none⟩) (Nat.le_refl _) _⟩
          case measure => simp [intOf]; omega
        · have ht : (bits .and .i64 (mode / 2 ^ (8 - i)) 1 == 0) = false := by rw [and1]; simpa using hz
          have HS : Hid (Ar10 wr w.heap.size (aTo k mode (i + 1))) := (unhide HA).eq fun j => by
            unfold aTo
            by_cases h0 : j = 0
            · simp [h0]
            · rw [if_neg h0, if_neg h0]
              by_cases h1 : j - 1 < i
              · rw [if_pos h1, if_pos (by omega)]
              · rw [if_neg h1]
                by_cases h2 : j - 1 < i + 1
                · rw [if_pos h2, show j - 1 = i by omega]; unfold sgP; rw [if_neg hz]
                · rw [if_neg h2]
          clear hz
          go_wp2_with fail
          go_roundw
          case rel => exact ⟨i + 1, by omega, by go_num, HS, HB⟩
          case measure => simp [intOf]; omega
      · obtain rfl : i = 9 := by omega
        have hbk := (unhide HA).back (cap := 10)
        rw [aTo_end] at hbk
        clear HA hcv
        obtain ⟨T, hT⟩ : ∃ T : ByteArray, T = ⟨(textP k mode).toArray⟩ := ⟨_, rfl⟩
        rw [← hT] at hbk
        have HT := hide hT
        clear hT
        go_wp2_with fail
        go_ret
        exact ⟨congrArg (fun s => Ending.returned (.string s)) (unhide HT), unhide HB⟩
theorem slice_oct {k : IntKind} (n : Nat) (hn : n < 8) (W : World) :
    Sem.run Try.prog (Instr.slice 9 (.string { data := #[48, 49, 50, 51, 52, 53, 54, 55] }) (some (.int k (n : Int))) (some (.int k ((n : Int) + 1))) none) W = .ok (.string ⟨#[UInt8.ofNat (48 + n)]⟩) W := by
  rw [run_slice_string W 9 { data := #[48, 49, 50, 51, 52, 53, 54, 55] } k k n (n + 1) Try.underlying9 (by omega) (by omega) (by show (n : Int) + 1 ≤ 8; omega)]
  congr 2
  have : n = 0 ∨ n = 1 ∨ n = 2 ∨ n = 3 ∨ n = 4 ∨ n = 5 ∨ n = 6 ∨ n = 7 := by omega
  rcases this with rfl | rfl | rfl | rfl | rfl | rfl | rfl | rfl <;> rfl
set_option maxHeartbeats 1000000 in
set_option maxRecDepth 100000 in
theorem roctal_any (mode : Int) (w : World) :
    Calls Try.prog 13 #[.int .i64 mode] w fun e w' => e = .returned (.string ⟨(octP mode).toArray⟩) ∧ Below w.heap.size w w' := by
  have hm5 : bits .and .i64 mode 511 = mode % 512 := and511 mode
  go_enter Try.func13, Try.ntmps13
  go_wp2_with fail
  refine (three_any (mode % 512) _).mono ?_
  rintro e w1 ⟨rfl, hb1⟩
  obtain ⟨a0, HA0⟩ : ∃ a, Hid (a = partP (mode % 512) 117) := ⟨_, rfl⟩
  obtain ⟨a1, HA1⟩ : ∃ a, Hid (a = partP (mode % 512) 103) := ⟨_, rfl⟩
  obtain ⟨a2, HA2⟩ : ∃ a, Hid (a = partP (mode % 512) 111) := ⟨_, rfl⟩
  rw [← unhide HA0, ← unhide HA1, ← unhide HA2]
  have l0 : a0 < 8 := by rw [unhide HA0]; exact partP_lt _ _
  have l1 : a1 < 8 := by rw [unhide HA1]; exact partP_lt _ _
  have l2 : a2 < 8 := by rw [unhide HA2]; exact partP_lt _ _
  obtain ⟨D0, hD0⟩ : ∃ D : ByteArray, D = ⟨#[UInt8.ofNat (48 + a0)]⟩ := ⟨_, rfl⟩
  obtain ⟨D1, hD1⟩ : ∃ D : ByteArray, D = ⟨#[UInt8.ofNat (48 + a1)]⟩ := ⟨_, rfl⟩
  obtain ⟨D2, hD2⟩ : ∃ D : ByteArray, D = ⟨#[UInt8.ofNat (48 + a2)]⟩ := ⟨_, rfl⟩
  have s0 := fun W => slice_oct (k := .i64) a0 l0 W
  have s1 := fun W => slice_oct (k := .i64) a1 l1 W
  have s2 := fun W => slice_oct (k := .i64) a2 l2 W
  rw [← hD0] at s0
  rw [← hD1] at s1
  rw [← hD2] at s2
  have z0 : D0.size = 1 := by rw [hD0]; rfl
  have z1 : D1.size = 1 := by rw [hD1]; rfl
  have z2 : D2.size = 1 := by rw [hD2]; rfl
  have HR : Hid ((⟨(octP mode).toArray⟩ : ByteArray) = D0 ++ D1 ++ D2) := by
    have e0 : partP mode 117 = a0 := by rw [unhide HA0]; unfold partP; simp; try omega
    have e1 : partP mode 103 = a1 := by rw [unhide HA1]; unfold partP; simp; try omega
    have e2 : partP mode 111 = a2 := by rw [unhide HA2]; unfold partP; simp; try omega
    rw [hD0, hD1, hD2]
    unfold octP digP
    rw [e0, e1, e2]; rfl
  clear hD0 hD1 hD2 HA0 HA1 HA2
  have HB1 := hide hb1
  clear hb1
  go_wp2_with fail
  go_quiet (fail)
  go_wp2_with fail
  go_ret
  exact ⟨congrArg (fun s => Ending.returned (.string s)) (unhide HR).symm, below_drewN ((unhide HB1).alloc (unhide HB1).size _) _⟩
end Go.Proofs.Ytijknodbaddelaa.Mo
