/- The law ModesBack: walked. -/
import Derived.Test.YtijknodbaddelaaDoorMoAlive
import Derived.Test.YtijknodbaddelaaDoorMoFacts
namespace Go.Proofs.YtijknodbaddelaaDoor.Mo
open Go.RowKit Go.Shelf

theorem rd3 : ∀ a : Nat, a < 8 → ∀ b : Nat, b < 8 → ∀ c : Nat, c < 8 → readP [UInt8.ofNat (48 + a), UInt8.ofNat (48 + b), UInt8.ofNat (48 + c)] = some (a * 64 + b * 8 + c) := by decide +kernel
theorem rd4 : ∀ a : Nat, a < 8 → ∀ b : Nat, b < 8 → ∀ c : Nat, c < 8 → readP [48, UInt8.ofNat (48 + a), UInt8.ofNat (48 + b), UInt8.ofNat (48 + c)] = some (a * 64 + b * 8 + c) := by decide +kernel
theorem m9_parts (mode : Int) : m9 mode = partP mode 117 * 64 + partP mode 103 * 8 + partP mode 111 := by
  unfold m9 partP; simp; omega
theorem read_oct (mode : Int) : readP (octP mode) = some (m9 mode) := by
  rw [m9_parts]
  exact rd3 _ (partP_lt _ _) _ (partP_lt _ _) _ (partP_lt _ _)
theorem read_oct0 (mode : Int) : readP (48 :: octP mode) = some (m9 mode) := by
  rw [m9_parts]
  exact rd4 _ (partP_lt _ _) _ (partP_lt _ _) _ (partP_lt _ _)
theorem by_oct (mode x mask : Int) (dir : Bool) : byP (octP mode) x mask dir = ((m9 mode : Nat) : Int) := by
  have hp : parse (octP mode) = some (octL (m9 mode)) := by unfold parse; rw [read_oct]
  have hl : (octP mode).length ≤ 4096 := by simp [octP]
  obtain ⟨h1, h2⟩ := parse_some hl hp
  unfold byP
  rw [h2, if_pos rfl, h1, oct_apply _ _ (m9_lt _) (m9_lt _)]
set_option maxHeartbeats 400000 in
set_option maxRecDepth 100000 in
theorem back_walk (mode x mask : Int) (dir : Bool) (w : World) :
    Calls Tryd.prog 3 #[.int .i64 mode, .agg #[.int .i64 x, .int .i64 mask, .bool dir]] w fun e w' => e = .returned (.bool true) ∧ Below w.heap.size w w' := by
  obtain ⟨W0, HW0⟩ : ∃ W, Hid (W = w.alloc (.cells #[.int .i64 x, .int .i64 mask, .bool dir] 23)) := ⟨_, rfl⟩
  have HB0 : Hid (Below w.heap.size w W0) := by rw [unhide HW0]; exact (Below.refl _ _).alloc (Nat.le_refl _) _
  have hz0 : w.heap.size < W0.heap.size := by rw [unhide HW0]; simp
  have HX : Hid (∀ W, Below W0.heap.size W0 W → W.cell? ⟨w.heap.size, 0, none⟩ = some (.int .i64 x) ∧ W.cell? ⟨w.heap.size, 1, none⟩ = some (.int .i64 mask) ∧ W.cell? ⟨w.heap.size, 2, none⟩ = some (.bool dir)) := fun W hb =>
    ⟨(hb.cell (p := ⟨w.heap.size, 0, none⟩) hz0).trans (by rw [unhide HW0]; simp), (hb.cell (p := ⟨w.heap.size, 1, none⟩) hz0).trans (by rw [unhide HW0]; simp), (hb.cell (p := ⟨w.heap.size, 2, none⟩) hz0).trans (by rw [unhide HW0]; simp)⟩
  have hm5 : bits .and .i64 mode 511 = ((m9 mode : Nat) : Int) := by rw [and511, m9_val]
  have C1 := hide (fun W => octal_any mode W)
  have e1 := read_oct mode
  have e2 := read_oct0 mode
  have e3 := by_oct mode x mask dir
  have hlo : (octP mode).length = 3 := rfl
  generalize hO : octP mode = O at *
  generalize hM : m9 mode = M at *
  obtain ⟨S, hS⟩ : ∃ S : ByteArray, S = ⟨O.toArray⟩ := ⟨_, rfl⟩
  have hSb : bs S = O := by rw [hS]
  have hSz : S.size = 3 := by rw [← bs_len, hSb]; exact hlo
  rw [← hS] at C1
  have C2 := hide (fun W => read_any S W (by omega))
  rw [hSb, e1] at C2
  unfold readV at C2
  obtain ⟨Z, hZ⟩ : ∃ Z : ByteArray, Z = ({ data := #[48] } : ByteArray) ++ S := ⟨_, rfl⟩
  have hZb : bs Z = 48 :: O := by rw [hZ, hS]; rfl
  have C3 := hide (fun W => read_any Z W (by rw [← bs_len, hZb]; simp [hlo]))
  rw [hZb, e2] at C3
  unfold readV at C3
  rw [hZ] at C3
  have C4 := hide (fun W => by_any S x mask dir W (by omega))
  rw [hSb, e3] at C4
  have C5 := hide (fun W => alive_any W)
  clear e1 e2 e3 hO hM hS hSb hZ hZb hlo
  have hcc : ¬ 9223372036854775807 < S.size + 1 := by omega
  go_enter Tryd.func3, Tryd.ntmps3
  go_wp2_with fail
  rw [← unhide HW0]
  clear HW0
  refine (unhide C1 _).mono ?_
  rintro e w1 ⟨rfl, hb⟩
  have B1 := hide hb
  clear hb C1
  go_wp2_with fail
  refine (unhide C2 _).mono ?_
  rintro e w2 ⟨rfl, hb⟩
  have B2 := hide ((unhide B1).trans (hb.mono (unhide B1).size))
  clear hb C2 B1
  go_wp2_with fail
  refine (unhide C3 _).mono ?_
  rintro e w3 ⟨rfl, hb⟩
  have B3 := hide ((unhide B2).trans (hb.mono (unhide B2).size))
  clear hb C3 B2
  go_wp2_with fail
  refine (unhide C5 _).mono ?_
  rintro e w4 ⟨rfl, hb⟩
  have B4 := hide ((unhide B3).trans (hb.mono (unhide B3).size))
  clear hb C5 B3
  obtain ⟨g0, g1, g2⟩ := unhide HX w4 (unhide B4)
  go_wp2_with fail
  refine (unhide C4 _).mono ?_
  rintro e w5 ⟨rfl, hb⟩
  have B5 := hide ((unhide B4).trans (hb.mono (unhide B4).size))
  clear hb C4 B4 g0 g1 g2
  go_wp2_with fail
  go_ret
  exact ⟨rfl, (unhide HB0).trans ((unhide B5).mono (unhide HB0).size)⟩
end Go.Proofs.YtijknodbaddelaaDoor.Mo
