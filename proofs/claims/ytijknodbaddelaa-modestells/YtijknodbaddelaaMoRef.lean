/- What the document's three, change and Apply answer. -/
import Derived.Test.YtijknodbaddelaaMoList
import Derived.Deep.DeepCutAuto
import Derived.Deep.CutBlock
namespace Go.Proofs.Ytijknodbaddelaa.Mo
open Go.RowKit

theorem p_u (x : Int) : bits .and .i64 (x / 64) 7 = ((partP x 117 : Nat) : Int) := by rw [and7]; simp [partP]; omega
theorem p_g (x : Int) : bits .and .i64 (x / 8) 7 = ((partP x 103 : Nat) : Int) := by rw [and7]; simp [partP]; omega
theorem p_o (x : Int) : bits .and .i64 x 7 = ((partP x 111 : Nat) : Int) := by rw [and7]; simp [partP]; omega
set_option maxHeartbeats 400000 in
set_option maxRecDepth 100000 in
theorem three_any (x : Int) (w : World) :
    Calls Try.prog 24 #[.int .i64 x] w fun e w' => e = .returned (.agg #[.int .i64 (partP x 117), .int .i64 (partP x 103), .int .i64 (partP x 111)]) ∧ Below w.heap.size w w' := by
  have h0 := p_u x
  have h1 := p_g x
  have h2 := p_o x
  generalize partP x 117 = a at *
  generalize partP x 103 = b at *
  generalize partP x 111 = c at *
  go_enter Try.func24, Try.ntmps24
  go_wp2_with fail
  exact bodyPost_ret (v := .agg #[.int .i64 a, .int .i64 b, .int .i64 c]) (by simp [results, Try.results24, go_sem]) rfl ⟨rfl, (Below.refl _ _).alloc (Nat.le_refl _) _⟩

/-- the bits of user, group, others -/
def hasP (m : Int) (j : Nat) : Nat := if j = 0 then partP m 117 else if j = 1 then partP m 103 else partP m 111
theorem hasP_lt (m : Int) (j : Nat) : hasP m j < 8 := by unfold hasP; (repeat' split) <;> exact partP_lt _ _
def stayP (who mask : Int) (j : Nat) : Nat := if who % 8 = 0 then hasP (mask % 512) j else hasP 0 j
def whoP (who : Int) : Int := if who % 8 = 0 then 7 else who % 8
def doQ (op : UInt8) (h b : Nat) : Nat := if op = 43 then h ||| b else if op = 45 then clr h b else if op = 61 then b else h
def newQ (op : UInt8) (h b s : Nat) : Nat := clr (doQ op h b) s ||| (h &&& s)
def nowP (c : Ch) (m : Nat) (mask : Int) (dir : Bool) (j : Nat) : Nat := if (whoP c.who / 2 ^ (2 - j)) % 2 = 0 then hasP m j else newQ c.op (hasP m j) (bitsP c m dir) (stayP c.who mask j)
def refP (c : Ch) (m : Nat) (mask : Int) (dir : Bool) : Nat := (nowP c m mask dir 0 * 64 ||| nowP c m mask dir 1 * 8) ||| nowP c m mask dir 2

theorem any_nat : ∀ m : Nat, m < 512 → ((((m / 64 % 8) ||| (m / 8 % 8)) ||| (m % 8)) % 2 == 1) = anyX m := by decide +kernel
theorem part_nat (m : Nat) : partP m 117 = m / 64 % 8 ∧ partP m 103 = m / 8 % 8 ∧ partP m 111 = m % 8 := by
  refine ⟨?_, ?_, ?_⟩ <;> simp [partP] <;> omega
theorem any_int (m : Nat) (hm : m < 512) : (bits .and .i64 (bits .or .i64 (bits .or .i64 (partP m 117 : Nat) (partP m 103 : Nat)) (partP m 111 : Nat)) 1 == 1) = anyX m := by
  have h0 := partP_lt m 117
  have h1 := partP_lt m 103
  have h2 := partP_lt m 111
  have h3 := or_lt8 h0 h1
  rw [bits_or_nat _ _ (by omega) (by omega), bits_or_nat _ _ (by omega) (by omega), and1, ← any_nat m hm]
  obtain ⟨e0, e1, e2⟩ := part_nat m
  rw [e0, e1, e2, Bool.eq_iff_iff]
  generalize ((m / 64 % 8 ||| m / 8 % 8) ||| m % 8) = z
  simp
  omega
/-- block b is an array of three numbers -/
def Ar3 (w : World) (b : Nat) (f : Nat → Nat) : Prop := w.heap[b]? = some (.cells #[.int .i64 (f 0 : Nat), .int .i64 (f 1 : Nat), .int .i64 (f 2 : Nat)] 57 (0, 0))
theorem Ar3.cell {w : World} {b : Nat} {f : Nat → Nat} (h : Ar3 w b f) (k : Nat) (hk : k < 3) : w.cell? ⟨b, k, none⟩ = some (.int .i64 (f k : Nat)) := by
  rw [cell_of_row _ _ _ _ _ _ h]
  match k, hk with
  | 0, _ => rfl
  | 1, _ => rfl
  | 2, _ => rfl
theorem Ar3.frozen {w : World} {b : Nat} {f : Nat → Nat} (h : Ar3 w b f) (k : Nat) : w.frozen? ⟨b, k, none⟩ = false := by
  unfold Ar3 at h
  simp [World.frozen?, h]
theorem Ar3.lt {w : World} {b : Nat} {f : Nat → Nat} (h : Ar3 w b f) : b < w.heap.size := (Array.getElem?_eq_some_iff.1 h).1
theorem Ar3.set {w : World} {b : Nat} {f : Nat → Nat} (h : Ar3 w b f) (k : Nat) (hk : k < 3) (x : Nat) : Ar3 (w.setCell ⟨b, k, none⟩ (.int .i64 (x : Nat))) b (fun i => if i = k then x else f i) := by
  unfold Ar3
  rw [heap_setCell_same _ _ _ _ _ _ h]
  match k, hk with
  | 0, _ => rfl
  | 1, _ => rfl
  | 2, _ => rfl
theorem Ar3.other {w : World} {b : Nat} {f : Nat → Nat} (h : Ar3 w b f) (a : Addr) (v : Value) (hne : b ≠ a.block) : Ar3 (w.setCell a v) b f := by
  unfold Ar3
  rw [heap_setCell_other _ _ _ _ hne]; exact h
theorem Ar3.below {w w' : World} {b : Nat} {f : Nat → Nat} (h : Ar3 w b f) (hb : Below w.heap.size w w') : Ar3 w' b f := (hb.block b h.lt).trans h
theorem Ar3.eq {w : World} {b : Nat} {f f' : Nat → Nat} (h : Ar3 w b f) (e : ∀ i, f i = f' i) : Ar3 w b f' := by rw [← funext e]; exact h
theorem Ar3.eq' {w : World} {b : Nat} {f f' : Nat → Nat} (h : Ar3 w b f) (e : ∀ i, i < 3 → f i = f' i) : Ar3 w b f' := by
  unfold Ar3 at h ⊢
  rw [← e 0 (by decide), ← e 1 (by decide), ← e 2 (by decide)]; exact h
theorem new_val (d h s : Nat) (hd : d < 8) (hh : h < 8) (hs : s < 8) : bits .or .i64 (bits .andNot .i64 (d : Int) (s : Int)) (bits .and .i64 (h : Int) (s : Int)) = ((clr d s ||| (h &&& s) : Nat) : Int) := by
  have h1 := clr_lt (a := d) (b := s) (k := 3) hd
  have h2 : h &&& s < 8 := Nat.lt_of_le_of_lt Nat.and_le_right hs
  rw [bits_clr _ _ (by omega), m9_nat _ (by omega), bits_and_nat _ _ (by omega) (by omega), bits_or_nat _ _ (by omega) (by omega)]
theorem stayP_lt (who mask : Int) (j : Nat) : stayP who mask j < 8 := by unfold stayP; split <;> exact hasP_lt _ _
theorem sum_val (a b c : Nat) (ha : a < 8) (hb : b < 8) (hc : c < 8) : bits .or .i64 (bits .or .i64 ((a : Int) * 64) ((b : Int) * 8)) (c : Int) = (((a * 64 ||| b * 8) ||| c : Nat) : Int) := by
  have h1 : a * 64 ||| b * 8 < 2 ^ 9 := Nat.or_lt_two_pow (by omega) (by omega)
  have h2 : ((a * 64 ||| b * 8) ||| c) < 2 ^ 9 := Nat.or_lt_two_pow h1 (by omega)
  rw [show (a : Int) * 64 = ((a * 64 : Nat) : Int) by push_cast; rfl, show (b : Int) * 8 = ((b * 8 : Nat) : Int) by push_cast; rfl, bits_or_nat _ _ (by omega) (by omega), bits_or_nat _ _ (by omega) (by omega)]
theorem doQ_lt (op : UInt8) (h b : Nat) (hh : h < 8) (hb : b < 8) : doQ op h b < 8 := by
  unfold doQ
  split
  · exact or_lt8 hh hb
  · split
    · exact clr_lt (k := 3) hh
    · split <;> assumption
theorem nowP_lt (c : Ch) (m : Nat) (mask : Int) (dir : Bool) (j : Nat) : nowP c m mask dir j < 8 := by
  unfold nowP
  split
  · exact hasP_lt _ _
  · exact or_lt8 (clr_lt (k := 3) (doQ_lt _ _ _ (hasP_lt _ _) (bitsP_lt _ _ _))) (Nat.lt_of_le_of_lt Nat.and_le_left (hasP_lt _ _))

set_option maxHeartbeats 2000000 in
set_option maxRecDepth 100000 in
theorem rchange_any (c : Ch) (m : Nat) (mask : Int) (dir : Bool) (w : World) (hm : m < 512) :
    Calls Try.prog 18 #[.agg (cc c).toArray, .int .i64 m, .int .i64 mask, .bool dir] w fun e w' => e = .returned (.int .i64 (refP c m mask dir)) ∧ Below w.heap.size w w' := by
  unfold cc
  obtain ⟨who, op, bts, cp, dirs⟩ := c
  obtain ⟨w0, HW0⟩ : ∃ w0, Hid (w0 = w.alloc (.cells #[.int .i64 who, .int .u8 op.toNat, .int .i64 bts, .int .u8 cp.toNat, .bool dirs] 36)) := ⟨_, rfl⟩
  go_enter Try.func18, Try.ntmps18
  go_wp2_with fail
  rw [← unhide HW0]
  refine (three_any (m : Int) _).mono ?_
  rintro e w1 ⟨rfl, hb1⟩
  have hz0 : w0.heap.size = w.heap.size + 1 := by rw [unhide HW0]; simp
  have hz1 : w.heap.size < w1.heap.size := by have := hb1.size; omega
  have HB1 : Hid (Below w.heap.size w w1) := by
    have : Below w.heap.size w w0 := by rw [unhide HW0]; exact (Below.refl _ _).alloc (Nat.le_refl _) _
    exact this.trans (hb1.mono (by omega))
  have d0 : w1.cell? ⟨w.heap.size, 0, none⟩ = some (.int .i64 who) := (hb1.cell (p := ⟨w.heap.size, 0, none⟩) (by simp; omega)).trans (by rw [unhide HW0]; simp)
  have d1 : w1.cell? ⟨w.heap.size, 1, none⟩ = some (.int .u8 op.toNat) := (hb1.cell (p := ⟨w.heap.size, 1, none⟩) (by simp; omega)).trans (by rw [unhide HW0]; simp)
  have d2 : w1.cell? ⟨w.heap.size, 2, none⟩ = some (.int .i64 bts) := (hb1.cell (p := ⟨w.heap.size, 2, none⟩) (by simp; omega)).trans (by rw [unhide HW0]; simp)
  have d3 : w1.cell? ⟨w.heap.size, 3, none⟩ = some (.int .u8 cp.toNat) := (hb1.cell (p := ⟨w.heap.size, 3, none⟩) (by simp; omega)).trans (by rw [unhide HW0]; simp)
  have d4 : w1.cell? ⟨w.heap.size, 4, none⟩ = some (.bool dirs) := (hb1.cell (p := ⟨w.heap.size, 4, none⟩) (by simp; omega)).trans (by rw [unhide HW0]; simp)
  clear hb1 HW0 hz0
  obtain ⟨a0, HA0⟩ : ∃ a, Hid (a = partP m 117) := ⟨_, rfl⟩
  obtain ⟨a1, HA1⟩ : ∃ a, Hid (a = partP m 103) := ⟨_, rfl⟩
  obtain ⟨a2, HA2⟩ : ∃ a, Hid (a = partP m 111) := ⟨_, rfl⟩
  rw [← unhide HA0, ← unhide HA1, ← unhide HA2]
  have l0 : a0 < 8 := by rw [unhide HA0]; exact partP_lt _ _
  have l1 : a1 < 8 := by rw [unhide HA1]; exact partP_lt _ _
  have l2 : a2 < 8 := by rw [unhide HA2]; exact partP_lt _ _
  -- the switch over Copy
  obtain ⟨B1, HE1⟩ : ∃ B, Hid (B = ((bts % 8).toNat ||| partP m cp)) := ⟨_, rfl⟩
  have hB1 : B1 < 8 := by rw [unhide HE1]; exact or_lt8 (by omega) (partP_lt _ _)
  have hb7 : bits .and .i64 bts 7 = (((bts % 8).toNat : Nat) : Int) := by rw [and7]; omega
  obtain ⟨b7, HE7⟩ : ∃ b, Hid (b = (bts % 8).toNat) := ⟨_, rfl⟩
  rw [← unhide HE7] at hb7
  have hb8 : b7 < 8 := by rw [unhide HE7]; omega
  go_upto_block 0 with fail
  go_cut [10] (fun v wx => (w1.alloc (.cells #[.int .i64 a0, .int .i64 a1, .int .i64 a2] 57)) = wx ∧ v = .int .i64 (B1 : Int))
  case first =>
    have o0 : bits .or .i64 (b7 : Int) (a0 : Int) = ((b7 ||| a0 : Nat) : Int) := bits_or_nat _ _ (by omega) (by omega)
    have o1 : bits .or .i64 (b7 : Int) (a1 : Int) = ((b7 ||| a1 : Nat) : Int) := bits_or_nat _ _ (by omega) (by omega)
    have o2 : bits .or .i64 (b7 : Int) (a2 : Int) = ((b7 ||| a2 : Nat) : Int) := bits_or_nat _ _ (by omega) (by omega)
    go_wp2_with fail
    · rename_i h
      go_meet
      refine ⟨rfl, ?_⟩
      rw [unhide HE1, ← unhide HE7, unhide HA0]; unfold partP; rw [if_pos (ceq (d := 117) h)]; rfl
    · rename_i h1 h
      go_meet
      refine ⟨rfl, ?_⟩
      rw [unhide HE1, ← unhide HE7, unhide HA1]; unfold partP; rw [if_neg (cne (d := 117) h1), if_pos (ceq (d := 103) h)]; rfl
    · rename_i h1 h2 h
      go_meet
      refine ⟨rfl, ?_⟩
      rw [unhide HE1, ← unhide HE7, unhide HA2]; unfold partP; rw [if_neg (cne (d := 117) h1), if_neg (cne (d := 103) h2), if_pos (ceq (d := 111) h)]; rfl
    · rename_i h1 h2 h
      go_meet
      refine ⟨rfl, ?_⟩
      rw [unhide HE1, ← unhide HE7]; unfold partP; rw [if_neg (cne (d := 117) h1), if_neg (cne (d := 103) h2), if_neg (cne (d := 111) h)]; simp
  case rest =>
    obtain ⟨rfl, rfl⟩ := hcut
    clear HE7 hb7 hb8
    have hany := any_int m hm
    rw [← unhide HA0, ← unhide HA1, ← unhide HA2] at hany
    go_upto_region 10 with fail
    go_cut [56] (fun v wx => (w1.alloc (.cells #[.int .i64 a0, .int .i64 a1, .int .i64 a2] 57)) = wx ∧ v = .bool (dirs && (dir || anyX m)))
    case first =>
      cases dirs
      · go_wp2_with fail
        go_meet
        exact ⟨rfl, rfl⟩
      · cases dir
        · go_wp2_with fail
          go_meet
          refine ⟨rfl, ?_⟩
          first | rfl | (rw [hany]; rfl)
        · go_wp2_with fail
          go_meet
          exact ⟨rfl, rfl⟩
    case rest =>
      obtain ⟨rfl, rfl⟩ := hcut
      obtain ⟨B2, HE2⟩ : ∃ B, Hid (B = bitsP ⟨who, op, bts, cp, dirs⟩ m dir) := ⟨_, rfl⟩
      have hB2 : B2 < 8 := by rw [unhide HE2]; exact bitsP_lt _ _ _
      have HEB : Hid (B2 = (B1 ||| (if dirs && (dir || anyX m) then 1 else 0))) := by rw [unhide HE2, unhide HE1]; rfl
      clear hany
      go_upto_if 56 with fail
      go_cut [10] (fun v wx => (w1.alloc (.cells #[.int .i64 a0, .int .i64 a1, .int .i64 a2] 57)) = wx ∧ v = .int .i64 (B2 : Int))
      case first =>
        have o1 : bits .or .i64 (B1 : Int) 1 = ((B1 ||| 1 : Nat) : Int) := bits_or_nat _ 1 (by omega) (by decide)
        obtain ⟨t, ht⟩ : ∃ t, t = (dirs && (dir || anyX m)) := ⟨_, rfl⟩
        rw [← ht] at HEB ⊢
        clear ht
        cases t
        · obtain rfl : B2 = B1 := by have := unhide HEB; simpa using this
          clear HEB
          go_wp2_with fail
          go_meet
          exact ⟨rfl, rfl⟩
        · have hE : Hid (((B1 ||| 1 : Nat) : Int) = (B2 : Int)) := by have := unhide HEB; simp at this; rw [this]; rfl
          clear HEB
          go_wp2_with fail
          go_meet
          exact ⟨rfl, by rw [unhide hE]⟩
      case rest =>
        obtain ⟨rfl, rfl⟩ := hcut
        clear HEB HE1 hB1
        go_wp2_with fail
        obtain ⟨W1, HWW⟩ : ∃ W, Hid (W = w1.alloc (.cells #[.int .i64 a0, .int .i64 a1, .int .i64 a2] 57)) := ⟨_, rfl⟩
        have hz2 : w1.heap.size + 1 = W1.heap.size := by rw [unhide HWW]; simp
        have HH1 : Hid (Ar3 W1 w1.heap.size (hasP m)) := by
          rw [unhide HWW, unhide HA0, unhide HA1, unhide HA2]; exact heap_alloc_new w1 _
        have HBW : Hid (Below w.heap.size w W1) := by rw [unhide HWW]; exact (unhide HB1).alloc (unhide HB1).size _
        have HOP : Hid (W1.cell? ⟨w.heap.size, 0, none⟩ = some (.int .i64 who) ∧ W1.cell? ⟨w.heap.size, 1, none⟩ = some (.int .u8 op.toNat)) := by
          rw [unhide HWW]; exact ⟨(((Below.refl _ w1).alloc (Nat.le_refl _) _).cell (p := ⟨w.heap.size, 0, none⟩) hz1).trans d0, (((Below.refl _ w1).alloc (Nat.le_refl _) _).cell (p := ⟨w.heap.size, 1, none⟩) hz1).trans d1⟩
        rw [← unhide HWW]
        clear HWW d0 d1 d2 d3 d4 HB1 HA0 HA1 HA2
        refine (three_any 0 _).mono ?_
        rintro e w2 ⟨rfl, hb2⟩
        have HH2 := hide ((unhide HH1).below hb2)
        have HB2 : Hid (Below w.heap.size w w2) := (unhide HBW).trans (hb2.mono (by omega))
        have d0 : w2.cell? ⟨w.heap.size, 0, none⟩ = some (.int .i64 who) := (hb2.cell (p := ⟨w.heap.size, 0, none⟩) (by simp; omega)).trans (unhide HOP).1
        have d1 : w2.cell? ⟨w.heap.size, 1, none⟩ = some (.int .u8 op.toNat) := (hb2.cell (p := ⟨w.heap.size, 1, none⟩) (by simp; omega)).trans (unhide HOP).2
        have hz3 : w1.heap.size < w2.heap.size := by have := hb2.size; omega
        have hz4 : w.heap.size < w2.heap.size := by omega
        clear hb2 HH1 HBW HOP hz2
        have hw7 : bits .and .i64 who 7 = who % 8 := and7 who
        go_upto_if 64 with fail
        obtain ⟨wv, HWV⟩ : ∃ v, Hid (v = whoP who) := ⟨_, rfl⟩
        go_cut [12] (fun v wx => v = .int .i64 wv ∧ Hid (Ar3 wx w1.heap.size (hasP m)) ∧ Hid (Ar3 wx w2.heap.size (stayP who mask)) ∧ Hid (Below w.heap.size w wx) ∧ Hid (wx.cell? ⟨w.heap.size, 1, none⟩ = some (.int .u8 op.toNat)))
        case first =>
          by_cases h8 : who % 8 = 0
          · have ht : (who % 8 == 0) = true := by simpa using h8
            have hm5 : bits .and .i64 mask 511 = mask % 512 := and511 mask
            have HST : Hid (∀ j, stayP who mask j = hasP (mask % 512) j) := fun j => by unfold stayP; rw [if_pos h8]
            obtain rfl : wv = 7 := by rw [unhide HWV]; unfold whoP; rw [if_pos h8]
            have HS3 : Hid (Ar3 (w2.alloc (.cells #[.int .i64 (partP 0 117), .int .i64 (partP 0 103), .int .i64 (partP 0 111)] 57)) w2.heap.size (hasP 0)) := heap_alloc_new w2 _
            have hB := (Below.refl w2.heap.size w2).alloc (Nat.le_refl _) (.cells #[.int .i64 (partP 0 117), .int .i64 (partP 0 103), .int .i64 (partP 0 111)] 57)
            have HR := hide (And.intro ((unhide HH2).below hB) (And.intro ((unhide HB2).alloc (unhide HB2).size (.cells #[.int .i64 (partP 0 117), .int .i64 (partP 0 103), .int .i64 (partP 0 111)] 57)) ((hB.cell (p := ⟨w.heap.size, 1, none⟩) hz4).trans d1)))
            clear h8 hB HWV
            go_wp2_with fail
            refine (three_any (mask % 512) _).mono ?_
            rintro e w3 ⟨rfl, hb3⟩
            have HS4 := hide ((unhide HS3).below hb3)
            have HR4 := hide (And.intro ((unhide HR).1.below hb3) (And.intro ((unhide HR).2.1.trans (hb3.mono (by simp; omega))) ((hb3.cell (p := ⟨w.heap.size, 1, none⟩) (by simp; omega)).trans (unhide HR).2.2)))
            clear HR HS3 hb3 HH2 HB2
            have e0 := (unhide HS4).cell 0 (by decide)
            have e1 := (unhide HS4).cell 1 (by decide)
            have e2 := (unhide HS4).cell 2 (by decide)
            have f0 := (unhide HS4).frozen 0
            have f1 := (unhide HS4).frozen 1
            have f2 := (unhide HS4).frozen 2
            have hlt3 := (unhide HS4).lt
            go_wp2_with fail
            go_meet
            refine ⟨rfl, ?_, ?_, ?_, ?_⟩
            · exact (((unhide HR4).1.other _ _ (by simp; omega)).other _ _ (by simp; omega)).other _ _ (by simp; omega)
            · refine ((((unhide HS4).set 0 (by decide) _).set 1 (by decide) _).set 2 (by decide) _).eq' fun j hj => ?_
              rw [unhide HST]
              match j, hj with
              | 0, _ => rfl
              | 1, _ => rfl
              | 2, _ => rfl
            · exact (((unhide HR4).2.1.setCell (p := ⟨w2.heap.size, 0, none⟩) (by simp; omega) _).setCell (p := ⟨w2.heap.size, 1, none⟩) (by simp; omega) _).setCell (p := ⟨w2.heap.size, 2, none⟩) (by simp; omega) _
            · have hb := (((Below.refl w2.heap.size w3).setCell (p := ⟨w2.heap.size, 0, none⟩) (Nat.le_refl _) (.int .i64 (partP (mask % 512) 117))).setCell (p := ⟨w2.heap.size, 1, none⟩) (Nat.le_refl _) (.int .i64 (partP (mask % 512) 103))).setCell (p := ⟨w2.heap.size, 2, none⟩) (Nat.le_refl _) (.int .i64 (partP (mask % 512) 111))
              exact (hb.cell (p := ⟨w.heap.size, 1, none⟩) hz4).trans (unhide HR4).2.2
          · have ht : (who % 8 == 0) = false := by simpa using h8
            have hv : Hid (who % 8 = wv) := by rw [unhide HWV]; unfold whoP; rw [if_neg h8]; rfl
            have HS3 : Hid (Ar3 (w2.alloc (.cells #[.int .i64 (partP 0 117), .int .i64 (partP 0 103), .int .i64 (partP 0 111)] 57)) w2.heap.size (stayP who mask)) := by
              unfold Ar3 stayP; simp only [if_neg h8]; exact heap_alloc_new w2 _
            have hB := (Below.refl w2.heap.size w2).alloc (Nat.le_refl _) (.cells #[.int .i64 (partP 0 117), .int .i64 (partP 0 103), .int .i64 (partP 0 111)] 57)
            have HR := hide (And.intro ((unhide HH2).below hB) (And.intro ((unhide HB2).alloc (unhide HB2).size (.cells #[.int .i64 (partP 0 117), .int .i64 (partP 0 103), .int .i64 (partP 0 111)] 57)) ((hB.cell (p := ⟨w.heap.size, 1, none⟩) hz4).trans d1)))
            clear h8 hB
            go_wp2_with fail
            go_meet
            exact ⟨by rw [unhide hv], (unhide HR).1, HS3, (unhide HR).2.1, (unhide HR).2.2⟩
        case rest =>
          obtain ⟨rfl, HH3, HS3, HB3, HC3⟩ := hcut
          clear HH2 HB2 d0 d1
          go_wp2_with fail
          go_loopw [13] (fun v wr => ∃ (k : Nat) (F : Nat → Nat), k ≤ 3 ∧ v = .int .i64 k ∧ Hid (Ar3 wr w1.heap.size F) ∧ Hid (∀ j, F j = if j < k then nowP ⟨who, op, bts, cp, dirs⟩ m mask dir j else hasP m j) ∧ Hid (Ar3 wr w2.heap.size (stayP who mask)) ∧ Hid (Below w.heap.size w wr) ∧ Hid (wr.cell? ⟨w.heap.size, 1, none⟩ = some (.int .u8 op.toNat))) (fun v _ => 3 - (intOf v).toNat)
          case atStart => exact ⟨0, hasP m, Nat.zero_le _, rfl, HH3, fun j => by simp, HS3, HB3, HC3⟩
          case round =>
            clear HH3 HS3 HB3 HC3
            obtain ⟨k, F, hk, rfl, HH, HF, HS, HB, HC⟩ := hrel
            have hd1 := unhide HC
            by_cases hlt : k < 3
            · have hFk := unhide HF k
              rw [if_neg (Nat.lt_irrefl k)] at hFk
              have hh := (unhide HH).cell k hlt
              rw [hFk] at hh
              clear hFk
              have hs := (unhide HS).cell k hlt
              have hfz := (unhide HH).frozen k
              have hltb := (unhide HH).lt
              obtain ⟨h, HEh⟩ : ∃ h, Hid (h = hasP m k) := ⟨_, rfl⟩
              obtain ⟨s, HEs⟩ : ∃ s, Hid (s = stayP who mask k) := ⟨_, rfl⟩
              rw [← unhide HEh] at hh
              rw [← unhide HEs] at hs
              have hh8 : h < 8 := by rw [unhide HEh]; exact hasP_lt _ _
              have hs8 : s < 8 := by rw [unhide HEs]; exact stayP_lt _ _ _
              obtain ⟨D1, HD1⟩ : ∃ d, Hid (d = h ||| B2) := ⟨_, rfl⟩
              obtain ⟨D2, HD2⟩ : ∃ d, Hid (d = clr h B2) := ⟨_, rfl⟩
              have hD1 : D1 < 8 := by rw [unhide HD1]; exact or_lt8 hh8 hB2
              have hD2 : D2 < 8 := by rw [unhide HD2]; exact clr_lt (k := 3) hh8
              have o1 : bits .or .i64 (h : Int) (B2 : Int) = (D1 : Int) := by rw [unhide HD1]; exact bits_or_nat _ _ (by omega) (by omega)
              have o2 : bits .andNot .i64 (h : Int) (B2 : Int) = (D2 : Int) := by rw [unhide HD2, bits_clr _ _ (by omega), m9_nat _ (by omega)]
              have HFIN : Hid (∀ wy, wy = wr.setCell ⟨w1.heap.size, k, none⟩ (.int .i64 (nowP ⟨who, op, bts, cp, dirs⟩ m mask dir k : Nat)) → ∃ F', Hid (Ar3 wy w1.heap.size F') ∧ Hid (∀ j, F' j = if j < k + 1 then nowP ⟨who, op, bts, cp, dirs⟩ m mask dir j else hasP m j) ∧ Hid (Ar3 wy w2.heap.size (stayP who mask)) ∧ Below w.heap.size w wy ∧ Hid (wy.cell? ⟨w.heap.size, 1, none⟩ = some (.int .u8 op.toNat))) := by
                intro wy hwy
                subst hwy
                refine ⟨_, (unhide HH).set k hlt _, fun j => ?_, (unhide HS).other _ _ (by simp; omega), (unhide HB).setCell (p := ⟨w1.heap.size, k, none⟩) (by simp; omega) _, ?_⟩
                · by_cases e : j = k
                  · subst e; simp
                  · rw [if_neg e, unhide HF j]
                    by_cases e2 : j < k
                    · rw [if_pos e2, if_pos (by omega)]
                    · rw [if_neg e2, if_neg (by omega)]
                · exact (((Below.refl w1.heap.size wr).setCell (p := ⟨w1.heap.size, k, none⟩) (Nat.le_refl _) _).cell (p := ⟨w.heap.size, 1, none⟩) hz1).trans (unhide HC)
              go_wp2_with fail
              · rename_i t0
                have HN : Hid (hasP m k = nowP ⟨who, op, bts, cp, dirs⟩ m mask dir k) := by
                  unfold nowP
                  simp only
                  rw [← unhide HWV, if_pos (by have := t0; rw [and1] at this; simpa using this)]; rfl
                go_roundw
                case rel =>
                  refine ⟨k + 1, F, by omega, by go_num, HH, fun j => ?_, HS, HB, HC⟩
                  rw [unhide HF j]
                  by_cases e : j = k
                  · subst e; rw [if_neg (Nat.lt_irrefl _), if_pos (by omega)]; exact unhide HN
                  · by_cases e2 : j < k
                    · rw [if_pos e2, if_pos (by omega)]
                    · rw [if_neg e2, if_neg (by omega)]
                case measure => simp [intOf]; omega
              · rename_i t0 t1
                have HN : Hid (bits .or .i64 (bits .andNot .i64 (D1 : Int) (s : Int)) (bits .and .i64 (h : Int) (s : Int)) = ((nowP ⟨who, op, bts, cp, dirs⟩ m mask dir k : Nat) : Int)) := by
                  show _ = _
                  rw [new_val _ _ _ hD1 hh8 hs8]
                  unfold nowP newQ
                  simp only
                  rw [← unhide HWV, if_neg (by have := t0; rw [and1] at this; simpa using this), ← unhide HEh, ← unhide HEs, ← unhide HE2]
                  unfold doQ
                  rw [if_pos (ceq (d := 43) t1), unhide HD1]
                go_region
                rw [unhide HN]
                obtain ⟨wy, hwy⟩ : ∃ wy, wy = wr.setCell ⟨w1.heap.size, k, none⟩ (.int .i64 (nowP ⟨who, op, bts, cp, dirs⟩ m mask dir k : Nat)) := ⟨_, rfl⟩
                rw [← hwy]
                have HR := hide (unhide HFIN wy hwy)
                clear hwy HN HH HS HB HC hd1 hh hs hfz
                go_wp2_with fail
                go_roundw
                case rel =>
                  obtain ⟨F', q1, q2, q3, q4, q5⟩ := unhide HR
                  exact ⟨k + 1, F', by omega, by go_num, q1, q2, q3, below_drew1 q4, q5⟩
                case measure => simp [intOf]; omega
              · rename_i t0 t1 t2
                have HN : Hid (bits .or .i64 (bits .andNot .i64 (D2 : Int) (s : Int)) (bits .and .i64 (h : Int) (s : Int)) = ((nowP ⟨who, op, bts, cp, dirs⟩ m mask dir k : Nat) : Int)) := by
                  show _ = _
                  rw [new_val _ _ _ hD2 hh8 hs8]
                  unfold nowP newQ
                  simp only
                  rw [← unhide HWV, if_neg (by have := t0; rw [and1] at this; simpa using this), ← unhide HEh, ← unhide HEs, ← unhide HE2]
                  unfold doQ
                  rw [if_neg (cne (d := 43) t1), if_pos (ceq (d := 45) t2), unhide HD2]
                go_region
                rw [unhide HN]
                obtain ⟨wy, hwy⟩ : ∃ wy, wy = wr.setCell ⟨w1.heap.size, k, none⟩ (.int .i64 (nowP ⟨who, op, bts, cp, dirs⟩ m mask dir k : Nat)) := ⟨_, rfl⟩
                rw [← hwy]
                have HR := hide (unhide HFIN wy hwy)
                clear hwy HN HH HS HB HC hd1 hh hs hfz
                go_wp2_with fail
                go_roundw
                case rel =>
                  obtain ⟨F', q1, q2, q3, q4, q5⟩ := unhide HR
                  exact ⟨k + 1, F', by omega, by go_num, q1, q2, q3, below_drew1 q4, q5⟩
                case measure => simp [intOf]; omega
              · rename_i t0 t1 t2 t3
                have HN : Hid (bits .or .i64 (bits .andNot .i64 (B2 : Int) (s : Int)) (bits .and .i64 (h : Int) (s : Int)) = ((nowP ⟨who, op, bts, cp, dirs⟩ m mask dir k : Nat) : Int)) := by
                  show _ = _
                  rw [new_val _ _ _ hB2 hh8 hs8]
                  unfold nowP newQ
                  simp only
                  rw [← unhide HWV, if_neg (by have := t0; rw [and1] at this; simpa using this), ← unhide HEh, ← unhide HEs, ← unhide HE2]
                  unfold doQ
                  rw [if_neg (cne (d := 43) t1), if_neg (cne (d := 45) t2), if_pos (ceq (d := 61) t3)]
                go_region
                rw [unhide HN]
                obtain ⟨wy, hwy⟩ : ∃ wy, wy = wr.setCell ⟨w1.heap.size, k, none⟩ (.int .i64 (nowP ⟨who, op, bts, cp, dirs⟩ m mask dir k : Nat)) := ⟨_, rfl⟩
                rw [← hwy]
                have HR := hide (unhide HFIN wy hwy)
                clear hwy HN HH HS HB HC hd1 hh hs hfz
                go_wp2_with fail
                go_roundw
                case rel =>
                  obtain ⟨F', q1, q2, q3, q4, q5⟩ := unhide HR
                  exact ⟨k + 1, F', by omega, by go_num, q1, q2, q3, below_drew1 q4, q5⟩
                case measure => simp [intOf]; omega
              · rename_i t0 t1 t2 t3
                have HN : Hid (bits .or .i64 (bits .andNot .i64 (h : Int) (s : Int)) (bits .and .i64 (h : Int) (s : Int)) = ((nowP ⟨who, op, bts, cp, dirs⟩ m mask dir k : Nat) : Int)) := by
                  show _ = _
                  rw [new_val _ _ _ hh8 hh8 hs8]
                  unfold nowP newQ
                  simp only
                  rw [← unhide HWV, if_neg (by have := t0; rw [and1] at this; simpa using this), ← unhide HEh, ← unhide HEs, ← unhide HE2]
                  unfold doQ
                  rw [if_neg (cne (d := 43) t1), if_neg (cne (d := 45) t2), if_neg (cne (d := 61) t3)]
                go_region
                rw [unhide HN]
                obtain ⟨wy, hwy⟩ : ∃ wy, wy = wr.setCell ⟨w1.heap.size, k, none⟩ (.int .i64 (nowP ⟨who, op, bts, cp, dirs⟩ m mask dir k : Nat)) := ⟨_, rfl⟩
                rw [← hwy]
                have HR := hide (unhide HFIN wy hwy)
                clear hwy HN HH HS HB HC hd1 hh hs hfz
                go_wp2_with fail
                go_roundw
                case rel =>
                  obtain ⟨F', q1, q2, q3, q4, q5⟩ := unhide HR
                  exact ⟨k + 1, F', by omega, by go_num, q1, q2, q3, below_drew1 q4, q5⟩
                case measure => simp [intOf]; omega
            · obtain ⟨n0, HN0⟩ : ∃ n, Hid (n = nowP ⟨who, op, bts, cp, dirs⟩ m mask dir 0) := ⟨_, rfl⟩
              obtain ⟨n1, HN1⟩ : ∃ n, Hid (n = nowP ⟨who, op, bts, cp, dirs⟩ m mask dir 1) := ⟨_, rfl⟩
              obtain ⟨n2, HN2⟩ : ∃ n, Hid (n = nowP ⟨who, op, bts, cp, dirs⟩ m mask dir 2) := ⟨_, rfl⟩
              have hf : ∀ j, j < 3 → F j = nowP ⟨who, op, bts, cp, dirs⟩ m mask dir j := fun j hj => by rw [unhide HF j, if_pos (by omega)]
              have e0 := (unhide HH).cell 0 (by decide)
              have e1 := (unhide HH).cell 1 (by decide)
              have e2 := (unhide HH).cell 2 (by decide)
              rw [hf 0 (by decide), ← unhide HN0] at e0
              rw [hf 1 (by decide), ← unhide HN1] at e1
              rw [hf 2 (by decide), ← unhide HN2] at e2
              have g0 : n0 < 8 := by rw [unhide HN0]; exact nowP_lt _ _ _ _ _
              have g1 : n1 < 8 := by rw [unhide HN1]; exact nowP_lt _ _ _ _ _
              have g2 : n2 < 8 := by rw [unhide HN2]; exact nowP_lt _ _ _ _ _
              have HV := hide (sum_val n0 n1 n2 g0 g1 g2)
              have HRR : Hid (refP ⟨who, op, bts, cp, dirs⟩ m mask dir = ((n0 * 64 ||| n1 * 8) ||| n2)) := by rw [unhide HN0, unhide HN1, unhide HN2]; rfl
              clear hf HH HF HS HC hd1
              go_wp2_with fail
              go_ret
              refine ⟨ret_i ?_, unhide HB⟩
              rw [unhide HRR]; exact unhide HV
end Go.Proofs.Ytijknodbaddelaa.Mo
