/- The law SetsSingles: walked. -/
import Derived.Test.YtjgboecifonjdabSeAlive
import Derived.Test.YtjgboecifonjdabSeFacts
namespace Go.Proofs.Ytjgboecifonjdab.Se
open Go.RowKit

theorem oct_nat : ∀ n, n < 256 → ((UInt8.ofNat n / 64).toNat = n / 64 ∧ (48 + UInt8.ofNat n / 64).toNat = 48 + n / 64 ∧ (48 + UInt8.ofNat n / 8 % 8).toNat = 48 + n / 8 % 8 ∧ (48 + UInt8.ofNat n % 8).toNat = 48 + n % 8) := by decide +kernel
theorem oct_at (c : UInt8) : (48 + c / 64).toNat = 48 + c.toNat / 64 ∧ (48 + c / 8 % 8).toNat = 48 + c.toNat / 8 % 8 ∧ (48 + c % 8).toNat = 48 + c.toNat % 8 := by
  have := oct_nat c.toNat c.toNat_lt
  simp only [UInt8.ofNat_toNat] at this
  exact ⟨this.2.1, this.2.2.1, this.2.2.2⟩
def octS (c : UInt8) : ByteArray := ⟨(octB c).toArray⟩
theorem bs_app (a b : ByteArray) : bs (a ++ b) = bs a ++ bs b := by simp [bs, ByteArray.data_append]
theorem octs_len (L : Bs) : (L.flatMap octB).length = 4 * L.length := by
  induction L with
  | nil => rfl
  | cons c L ih => rw [List.flatMap_cons, List.length_append, ih]; simp [octB]; omega

theorem cv_lit (l : Bs) (w : World) (C : Array Value) (h : C = (Lib.byteCells l).toArray) (n : Nat) (hn : n = l.length) : (convert 22 9 (.slice (some ⟨w.heap.size, 0, none⟩) n n)).run Try.prog (w.alloc (.cells C 5)) = .ok (.string ⟨l.toArray⟩) (w.alloc (.cells C 5)) := by
  subst h hn
  refine run_convert_bytes_back _ 22 9 5 ⟨w.heap.size, 0, none⟩ l.length l Try.underlying22 Try.underlying5 Try.underlying9 ?_
  intro j hj
  rw [add_none, Nat.zero_add, cell_of_row _ _ _ _ _ _ (heap_alloc_new w _)]
  simp [Lib.byteCells, List.getElem?_eq_getElem hj]
set_option maxHeartbeats 400000 in
set_option maxRecDepth 100000 in
theorem octal_any (c : UInt8) (w : World) : Calls Try.prog 10 #[.int .u8 c.toNat] w fun e w' => e = .returned (.string (octS c)) ∧ Below w.heap.size w w' := by
  obtain ⟨R, hR⟩ : ∃ R, R = octS c := ⟨_, rfl⟩
  have hcv : (convert 22 9 (.slice (some ⟨w.heap.size, 0, none⟩) 4 4)).run Try.prog (w.alloc (.cells #[.int .u8 92, .int .u8 ((48 + (c.toNat : Int) / 64) % 256), .int .u8 (48 + (c.toNat : Int) / 8 % 8), .int .u8 (48 + (c.toNat : Int) % 8)] 5)) = .ok (.string R) (w.alloc (.cells #[.int .u8 92, .int .u8 ((48 + (c.toNat : Int) / 64) % 256), .int .u8 (48 + (c.toNat : Int) / 8 % 8), .int .u8 (48 + (c.toNat : Int) % 8)] 5)) := by
    rw [hR]
    refine cv_lit (octB c) w _ ?_ 4 rfl
    obtain ⟨h1, h2, h3⟩ := oct_at c
    have := c.toNat_lt
    simp only [octB, Lib.byteCells, List.map_cons, List.map_nil, h1, h2, h3]
    congr 1
    simp only [List.cons.injEq, Value.int.injEq, true_and, and_true]
    refine ⟨rfl, by omega, by omega, by omega⟩
  rw [← hR]
  clear hR
  go_enter Try.func10, Try.ntmps10
  go_wp2_with fail
  go_ret
  exact ⟨rfl, (Below.refl _ _).alloc (Nat.le_refl _) _⟩

set_option maxHeartbeats 1000000 in
set_option maxRecDepth 100000 in
theorem singles_walk (a : Option Addr) (n cap : Nat) (l : Bs) (x y : UInt8) (w : World) (h1 : By w a n cap l) :
    Calls Try.prog 4 #[.slice a n cap, .int .u8 x.toNat, .int .u8 y.toNat] w fun e w' => e = .returned (.bool true) ∧ Below w.heap.size w w' := by
  have H1 := hide h1
  have HL := hide h1.len
  clear h1
  go_enter Try.func4, Try.ntmps4
  go_wp2_with fail
  refine (alive_any w).mono ?_
  rintro e w1 ⟨rfl, hb1⟩
  have B1 := hide hb1
  have Y1 := hide ((unhide H1).below hb1)
  clear hb1 H1
  by_cases g1 : (3000 : Int) < (n : Int)
  · go_wp2_with fail
    refine (alive_any w1).mono ?_
    rintro e w3 ⟨rfl, hb3⟩
    have B3 := hide ((unhide B1).trans (hb3.mono (unhide B1).size))
    clear hb3
    go_wp2_with fail
    go_ret
    exact ⟨rfl, unhide B3⟩
  · go_wp2_with fail
    go_loopw [7, 8] (fun sv i wr => ∃ (k : Nat) (S : ByteArray), k ≤ n ∧ sv = .string S ∧ i = .int .i64 k ∧ Hid (bs S = (l.take k).flatMap octB) ∧ Hid (Below w1.heap.size w1 wr)) (fun _ i _ => n - (intOf i).toNat)
    case atStart => exact ⟨0, _, Nat.zero_le _, rfl, rfl, rfl, Below.refl _ _⟩
    case round =>
      obtain ⟨k, S, hk, rfl, rfl, hS, hnx⟩ := hrel
      by_cases hlt : k < n
      · have hlt' : (k : Int) < (n : Int) := by omega
        obtain ⟨b, off, rfl, hbl, hcs⟩ : ∃ b off, a = some ⟨b, off, none⟩ ∧ b < w1.heap.size ∧ ∀ i, i < n → w1.cell? ⟨b, off + i, none⟩ = some (.int .u8 ((l.getD i 0).toNat : Int)) := by
          rcases (unhide Y1).cells with h | h
          · omega
          · exact h
        have hc := ((unhide hnx).cell (p := ⟨b, off + k, none⟩) hbl).trans (hcs k hlt)
        have hts := take_snoc l k (by rw [unhide HL]; exact hlt)
        obtain ⟨c, hcc⟩ : ∃ c, c = l.getD k 0 := ⟨_, rfl⟩
        rw [← hcc] at hc hts
        have hS2 : Hid (∀ T : ByteArray, bs T = bs S ++ octB c → bs T = (l.take (k + 1)).flatMap octB) := by
          intro T hT
          rw [hT, hts, List.flatMap_append, unhide hS]; simp
        have C := hide (octal_any c wr)
        have hSs : S.size ≤ 12000 := by
          rw [← bs_len, unhide hS, octs_len, List.length_take]; omega
        clear hcs hcc hts
        go_wp2_with fail
        refine (unhide C).mono ?_
        rintro e w2 ⟨rfl, hb2⟩
        have B2 : Hid (Below w1.heap.size w1 w2) := (unhide hnx).trans (hb2.mono (unhide hnx).size)
        have ho : (octS c).size = 4 := rfl
        clear hb2 hc hnx C hS
        have hS3 := hide (unhide hS2 (S ++ octS c) (by rw [bs_app]; rfl))
        clear hS2
        go_wp2_with fail
        go_roundw
        case rel => exact ⟨k + 1, _, by omega, rfl, by go_num, hS3, B2⟩
        case measure => simp [intOf]; omega
      · have hP := parse_octs l (by rw [unhide HL]; omega)
        have hSl : bs S = l.flatMap octB := by rw [unhide hS, List.take_of_length_le (by rw [unhide HL]; omega)]
        rw [← hSl] at hP
        have hSs : S.size ≤ 12000 := by
          rw [← bs_len, hSl, octs_len, unhide HL]; omega
        have C1 := hide (fun W => parse_by (s := S) W (by omega) hP)
        rw [unhide HL] at C1
        have hT : parse (bs ((octS x ++ { data := #[45] }) ++ octS y)) = if x ≤ y then (spanTo x y, 0) else ([], 5) := by
          rw [bs_app, bs_app]
          have := parse_pair x y
          rw [List.append_nil] at this
          rw [← this, List.append_assoc]
          rfl
        have C4 := hide (fun (p : Bs × Int) (hp : parse (bs ((octS x ++ { data := #[45] }) ++ octS y)) = p) W => parse_by (s := (octS x ++ { data := #[45] }) ++ octS y) W (by rw [← bs_len, bs_app, bs_app, List.length_append, List.length_append]; show 4 + 1 + 4 ≤ _; omega) hp)
        have C2 := hide (fun W => octal_any x W)
        have C3 := hide (fun W => octal_any y W)
        have B2 : Hid (Below w.heap.size w wr) := (unhide B1).trans ((unhide hnx).mono (unhide B1).size)
        have Y2 := hide ((unhide Y1).below (unhide hnx))
        obtain ⟨X, hX⟩ : ∃ X, X = octS x := ⟨_, rfl⟩
        obtain ⟨Z, hZ⟩ : ∃ Z, Z = octS y := ⟨_, rfl⟩
        rw [← hX] at C2 C4 hT
        rw [← hZ] at C3 C4 hT
        have hXs : X.size = 4 := by rw [hX]; rfl
        have hZs : Z.size = 4 := by rw [hZ]; rfl
        have HT := hide hT
        clear hP hSl hS hT hX hZ hnx B1 Y1
        go_wp2_with fail
        refine (unhide C1 _).mono ?_
        rintro e w2 ⟨a2, c2, rfl, hY, _, hb2⟩
        have B3 := hide ((unhide B2).trans (hb2.mono (unhide B2).size))
        have Y3 := hide ((unhide Y2).below hb2)
        have Z3 := hide hY
        clear hY hb2 B2 Y2 C1
        go_wp2_with fail
        refine (unhide C2 _).mono ?_
        rintro e w3 ⟨rfl, hb3⟩
        have B4 := hide ((unhide B3).trans (hb3.mono (unhide B3).size))
        have Y4 := hide ((unhide Y3).below hb3)
        have Z4 := hide ((unhide Z3).below hb3)
        clear hb3 B3 Y3 Z3 C2
        go_wp2_with fail
        refine (unhide C3 _).mono ?_
        rintro e w4 ⟨rfl, hb4⟩
        have B5 := hide ((unhide B4).trans (hb4.mono (unhide B4).size))
        have Y5 := hide ((unhide Y4).below hb4)
        have Z5 := hide ((unhide Z4).below hb4)
        clear hb4 B4 Y4 Z4 C3
        by_cases hxy : (y.toNat : Int) < (x.toNat : Int)
        · have hno : ¬ x ≤ y := fun h => by have := UInt8.le_iff_toNat_le.1 h; omega
          have C5 := hide (unhide C4 ([], 5) (by rw [unhide HT, if_neg hno]) w4)
          clear C4 HT hno
          go_wp2_with fail
          refine (unhide C5).mono ?_
          rintro e w5 ⟨a5, c5, rfl, _, _, hb5⟩
          have B6 := hide ((unhide B5).trans (hb5.mono (unhide B5).size))
          have D6 := hide (same_any a2 a n c2 cap c2 cap l w5 (by omega) ((unhide Z5).below hb5) ((unhide Y5).below hb5))
          clear hb5 B5 Y5 Z5 C5
          go_wp2_with fail
          refine (unhide D6).mono ?_
          rintro e w6 ⟨rfl, hb6⟩
          have B7 := hide ((unhide B6).trans (hb6.mono (unhide B6).size))
          clear hb6 B6 D6
          go_wp2_with fail
          go_ret
          exact ⟨rfl, unhide B7⟩
        · have hyes : x ≤ y := UInt8.le_iff_toNat_le.2 (by omega)
          have hsl : (spanTo x y).length = y.toNat + 1 - x.toNat := by unfold spanTo; exact span_length _ _
          have C5 := unhide C4 (spanTo x y, 0) (by rw [unhide HT, if_pos hyes]) w4
          have HG : Hid (∀ i, i < y.toNat + 1 - x.toNat → (((spanTo x y).getD i 0).toNat : Int) = (x.toNat : Int) + (i : Int)) := by
            intro i hi
            have := span_get x.toNat (y.toNat + 1 - x.toNat) i hi
            rw [show (spanTo x y).getD i 0 = UInt8.ofNat (x.toNat + i) from by unfold spanTo; rw [List.getD, this]; rfl]
            have := y.toNat_lt
            simp; omega
          rw [hsl] at C5
          have C5 := hide C5
          obtain ⟨m, hm⟩ : ∃ m, m = y.toNat + 1 - x.toNat := ⟨_, rfl⟩
          rw [← hm] at C5 HG
          have hmi : (m : Int) = (y.toNat : Int) - (x.toNat : Int) + 1 := by omega
          have hm256 : (x.toNat : Int) + (m : Int) ≤ 256 := by have := y.toNat_lt; omega
          have t9 : ((m : Int) != (y.toNat : Int) - (x.toNat : Int) + 1) = false := by rw [hmi]; simp
          have hx255 : (x.toNat : Int) ≤ 255 := by have := x.toNat_lt; omega
          have hy255 : (y.toNat : Int) ≤ 255 := by have := y.toNat_lt; omega
          clear C4 HT hyes hsl hm hmi
          generalize spanTo x y = L at *
          go_wp2_with fail
          refine (unhide C5).mono ?_
          rintro e w5 ⟨a5, c5, rfl, hY5, _, hb5⟩
          have B6 := hide ((unhide B5).trans (hb5.mono (unhide B5).size))
          have D6 := hide (same_any a2 a n c2 cap c2 cap l w5 (by omega) ((unhide Z5).below hb5) ((unhide Y5).below hb5))
          have X5 := hide hY5
          clear hb5 B5 Y5 Z5 C5 hY5
          go_wp2_with fail
          refine (unhide D6).mono ?_
          rintro e w6 ⟨rfl, hb6⟩
          have B7 := hide ((unhide B6).trans (hb6.mono (unhide B6).size))
          have X6 := hide ((unhide X5).below hb6)
          clear hb6 B6 D6 X5
          go_wp2_with fail
          go_loopw [13] (fun i wr => ∃ k : Nat, k ≤ m ∧ i = .int .i64 k ∧ wr = w6) (fun i _ => m - (intOf i).toNat)
          case atStart => exact ⟨0, Nat.zero_le _, rfl, by trivial⟩
          case round =>
            obtain ⟨j, hj, rfl, rfl⟩ := hrel
            by_cases hlt3 : j < m
            · have hlt3' : (j : Int) < (m : Int) := by omega
              obtain ⟨b5, o5, rfl, _, hcs⟩ : ∃ b off, a5 = some ⟨b, off, none⟩ ∧ b < wr.heap.size ∧ ∀ i, i < m → wr.cell? ⟨b, off + i, none⟩ = some (.int .u8 ((L.getD i 0).toNat : Int)) := by
                rcases (unhide X6).cells with h | h
                · omega
                · exact h
              have hc := hcs j hlt3
              rw [unhide HG j hlt3] at hc
              have hj255 : (j : Int) ≤ 255 := by omega
              have hjx : (x.toNat : Int) + (j : Int) ≤ 255 := by omega
              have t8 : ((x.toNat : Int) + (j : Int) != (x.toNat : Int) + (j : Int)) = false := by simp
              clear hcs
              go_wp2_with fail
              go_roundw
              case rel => exact ⟨j + 1, by omega, by go_num, by trivial⟩
              case measure => simp [intOf]; omega
            · go_wp2_with fail
              go_ret
              exact ⟨rfl, unhide B7⟩
end Go.Proofs.Ytjgboecifonjdab.Se
