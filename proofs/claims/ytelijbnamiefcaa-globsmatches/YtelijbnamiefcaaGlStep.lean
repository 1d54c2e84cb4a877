/- What step answers. -/
import Derived.Test.YtelijbnamiefcaaGlFit
namespace Go.Proofs.Ytelijbnamiefcaa.Gl
open Go.RowKit

def goesW (A F : Nat → Wd) (i : Nat) : Wd := A i &&& F i
def cyW (A F : Nat → Wd) : Nat → Wd
  | 0 => 0
  | i + 1 => goesW A F i >>> 63
def newW (A F S : Nat → Wd) (i : Nat) : Wd := (A i &&& S i) ||| (goesW A F i <<< 1) ||| cyW A F i
def leftW (A F S : Nat → Wd) : Nat → Wd
  | 0 => 0
  | i + 1 => leftW A F S i ||| newW A F S i
def mixW (A F S : Nat → Wd) (k i : Nat) : Wd := if i < k then newW A F S i else A i
theorem mixW_step (A F S : Nat → Wd) (k i : Nat) : (if i = k then newW A F S k else mixW A F S k i) = mixW A F S (k + 1) i := by
  unfold mixW
  by_cases h : i = k
  · subst h; simp
  · by_cases h2 : i < k
    · rw [if_neg h, if_pos h2, if_pos (by omega)]
    · rw [if_neg h, if_neg h2, if_neg (by omega)]
theorem or_zero {x y : Wd} (h : x ||| y = 0) : x = 0 ∧ y = 0 := by
  constructor
  · apply BitVec.eq_of_getLsbD_eq
    intro i _
    have := congrArg (fun z : Wd => z.getLsbD i) h
    simp only [BitVec.getLsbD_or] at this
    cases hx : x.getLsbD i
    · simp
    · rw [hx] at this; simp at this
  · apply BitVec.eq_of_getLsbD_eq
    intro i _
    have := congrArg (fun z : Wd => z.getLsbD i) h
    simp only [BitVec.getLsbD_or] at this
    cases hx : y.getLsbD i
    · simp
    · rw [hx] at this; simp at this
theorem left_zero (A F S : Nat → Wd) (m : Nat) (h : leftW A F S m = 0) : ∀ i, i < m → newW A F S i = 0 := by
  induction m with
  | zero => intro i hi; omega
  | succ m ih =>
    intro i hi
    obtain ⟨h1, h2⟩ := or_zero h
    by_cases e : i = m
    · subst e; exact h2
    · exact ih h1 i (by omega)
theorem hasW_new (A F S : Nat → Wd) (m j : Nat) (hj : j < 64 * m) : hasW (mixW A F S m) j = (hasW A j && hasW S j || (match j with
    | 0 => false
    | i + 1 => hasW A i && hasW F i)) := by
  have hi : j / 64 < m := by omega
  have hr := Nat.mod_lt j (show 0 < 64 by decide)
  unfold hasW mixW
  rw [if_pos hi]
  unfold newW
  rw [BitVec.getLsbD_or, BitVec.getLsbD_or, BitVec.getLsbD_and, Bool.or_assoc]
  congr 1
  rw [BitVec.getLsbD_shiftLeft]
  cases j with
  | zero => simp [cyW]
  | succ i =>
    simp only []
    by_cases h0 : (i + 1) % 64 = 0
    · have e1 : (i + 1) / 64 = i / 64 + 1 := by omega
      have e2 : i % 64 = 63 := by omega
      rw [h0, e1, cyW, BitVec.getLsbD_ushiftRight, e2]
      simp [goesW]
    · have e1 : (i + 1) / 64 = i / 64 := by omega
      have e2 : i % 64 = (i + 1) % 64 - 1 := by omega
      have e3 : (cyW A F (i / 64)).getLsbD ((i + 1) % 64) = false := by
        cases i / 64 with
        | zero => simp [cyW]
        | succ q =>
          rw [cyW, BitVec.getLsbD_ushiftRight]
          exact BitVec.getLsbD_of_ge _ _ (by omega)
      rw [e1, e3, e2]
      simp [goesW]
      omega
/-- what step answers -/
def StepR (w w' : World) (B b : Nat) (ts : List Th) (m : Nat) (o : Value) (g1 g2 : Nat) (S A : Nat → Wd) (c : UInt8) (e : Ending) : Prop :=
  ∃ f A' r, e = .returned (.bool r) ∧ Mach w' B b ts m o g1 g2 S A' f ∧ (∀ j, j < 64 * m → hasW A' j = stp ts c (hasW A) j) ∧ (r = false → ∀ j, j < 64 * m → hasW A' j = false) ∧ Below B w w'
theorem shl1_val (x : Wd) : IntKind.u64.wrap ((x.toNat : Int) * 2) = ((x <<< 1).toNat : Int) := by
  have h : (x <<< 1).toNat = x.toNat * 2 % 18446744073709551616 := by rw [BitVec.toNat_shiftLeft, Nat.shiftLeft_eq]
  simp only [IntKind.wrap, IntKind.signed, IntKind.bits]
  simp only [Bool.false_eq_true, if_false, Bool.false_and]
  omega
theorem shr63_val (x : Wd) : (x.toNat : Int) / (9223372036854775808 : Int) = ((x >>> 63).toNat : Int) := by
  rw [← shr_val]; rfl

set_option maxHeartbeats 1000000 in
set_option maxRecDepth 100000 in
theorem step_any (B b : Nat) (ts : List Th) (m : Nat) (o : Value) (g1 g2 : Nat) (S A : Nat → Wd) (f : UInt8 → Value) (c : UInt8) (w : World) (hM : Mach w B b ts m o g1 g2 S A f) (hm : m ≤ 1000) (hl : (ones ts).length ≤ 4096) (hw : (ones ts).length < 64 * m) :
    Calls Try.prog 21 #[.pointer (some ⟨b, 0, none⟩), .int .u8 c.toNat] w fun e w' => StepR w w' B b ts m o g1 g2 S A c e := by
  have HF := hide (fitting_any B b ts m o g1 g2 S A f c w hM hm hl hw)
  clear hM
  go_enter Try.func21, Try.ntmps21
  go_wp2_with fail
  refine (unhide HF).mono ?_
  rintro e w1 ⟨f', g, F, rfl, hM, hPF, hFj, hne, hb1⟩
  have HM := hide hM
  have HPF := hide hPF
  have HFj := hide hFj
  have HB1 := hide hb1
  have hc2 := hM.mc.cell2
  have hc1 := hM.mc.cell1
  clear HF hM hPF hFj hb1
  go_wp2_with fail
  go_loopw [6, 7, 19] (fun v6 v7 v19 wr => ∃ (k : Nat) (cy lf : Wd), k ≤ m ∧ v19 = .int .i64 k ∧ v6 = .int .u64 (cy.toNat : Int) ∧ v7 = .int .u64 (lf.toNat : Int) ∧ Hid (cy = cyW A F k) ∧ Hid (lf = leftW A F S k) ∧ Hid (Fr g2 w1 wr) ∧ Hid (Pl wr g2 m (mixW A F S k)) ∧ Hid (Below B w wr)) (fun _ _ v19 _ => m - (intOf v19).toNat)
  case atStart => exact ⟨0, 0, 0, Nat.zero_le _, rfl, rfl, rfl, rfl, rfl, Fr.refl _ _, ((unhide HM).at'.eq fun i => by simp [mixW]), HB1⟩
  case round =>
    obtain ⟨k, cy, lf, hk, rfl, rfl, rfl, hcy, hlf, hFr, hP, hB⟩ := hrel
    have hsep := hide ((unhide hFr).sep (unhide HM).at')
    have hMr := hide ((unhide hsep).mc (unhide HM).mc (by decide))
    have hd1 := (unhide hMr).cell1
    have hd2 := (unhide hMr).cell2
    clear hc1 hc2
    by_cases hlt : k < m
    · have ha := (unhide hP).cell k hlt
      have hfz := (unhide hP).frozen k
      have hmk : mixW A F S k k = A k := by simp [mixW]
      rw [hmk] at ha
      have hsv : Pl wr g1 m S := (unhide hFr).keep (unhide HM).st (unhide HM).ne
      have hs := hsv.cell k hlt
      have hfv : Pl wr g m F := (unhide hFr).keep (unhide HPF) hne
      have hf := hfv.cell k hlt
      have e1 := bits_and (A k) (F k)
      have e2 := bits_and (A k) (S k)
      have e3 := shl1_val (A k &&& F k)
      have e4 := bits_or (A k &&& S k) ((A k &&& F k) <<< 1)
      have e5 := bits_or ((A k &&& S k) ||| ((A k &&& F k) <<< 1)) cy
      have e6 := hide (shr63_val (A k &&& F k))
      have e7 := bits_or lf (((A k &&& S k) ||| ((A k &&& F k) <<< 1)) ||| cy)
      have n1 : Hid (((A k &&& S k) ||| ((A k &&& F k) <<< 1)) ||| cy = newW A F S k) := by rw [unhide hcy]; rfl
      have n2 : Hid ((A k &&& F k) >>> 63 = cyW A F (k + 1)) := rfl
      have n3 : Hid (lf ||| (((A k &&& S k) ||| ((A k &&& F k) <<< 1)) ||| cy) = leftW A F S (k + 1)) := by rw [unhide n1, unhide hlf]; rfl
      have hPset := hide ((unhide hP).set k (((A k &&& S k) ||| ((A k &&& F k) <<< 1)) ||| cy))
      generalize (lf ||| (((A k &&& S k) ||| ((A k &&& F k) <<< 1)) ||| cy)) = lf' at *
      generalize (((A k &&& S k) ||| ((A k &&& F k) <<< 1)) ||| cy) = nw at *
      generalize ((A k &&& S k) ||| ((A k &&& F k) <<< 1)) = x1 at *
      generalize (A k &&& F k) <<< 1 = sh at *
      generalize (A k &&& F k) >>> 63 = cy' at *
      generalize A k &&& F k = gs at *
      generalize A k &&& S k = asv at *
      generalize A k = av at *
      generalize F k = fv at *
      generalize S k = sv at *
      have hP5 : Hid (Pl (wr.setCell ⟨g2, k, none⟩ (.int .u64 (nw.toNat : Int))).drew g2 m (mixW A F S (k + 1))) := by
        have h1 := (unhide hPset).eq (f' := mixW A F S (k + 1)) fun i => by rw [unhide n1]; exact mixW_step A F S k i
        exact h1.drew
      have hat5 : (wr.setCell ⟨g2, k, none⟩ (.int .u64 (nw.toNat : Int))).drew.cell? ⟨g2, k, none⟩ = some (.int .u64 (nw.toNat : Int)) := by
        have h1 := (unhide hPset).cell k hlt
        rw [if_pos rfl] at h1
        exact h1
      have hFr5 : Hid (Fr g2 w1 (wr.setCell ⟨g2, k, none⟩ (.int .u64 (nw.toNat : Int))).drew) := ((unhide hFr).trans (Fr.set _ _ _ _)).drew
      have hB5 : Hid (Below B w (wr.setCell ⟨g2, k, none⟩ (.int .u64 (nw.toNat : Int))).drew) := below_drew1 ((unhide hB).setCell (p := ⟨g2, k, none⟩) (unhide HM).h2 _)
      have hd5 : (wr.setCell ⟨g2, k, none⟩ (.int .u64 (nw.toNat : Int))).drew.cell? ⟨b, 2, none⟩ = some (.slice (some ⟨g2, 0, none⟩) m m) := ((((unhide hFr5).sep (unhide HM).at')).mc (unhide HM).mc (by decide)).cell2
      clear hmk hsv hfv hPset hFr hP hB hsep hMr n1 hcy hlf
      go_wp2_with fail
      go_region
      clear hd1 hd2 ha hs hf hfz e1 e2 e3 e4 e5
      generalize (wr.setCell ⟨g2, k, none⟩ (.int .u64 (nw.toNat : Int))).drew = w5 at *
      go_wp2_with fail
      go_roundw
      case rel => exact ⟨k + 1, cy', lf', by omega, by go_num, by rw [unhide e6], rfl, n2, n3, hFr5, hP5, hB5⟩
      case measure => simp [intOf]; omega
    · have hkm : k = m := by omega
      have hP9 : Hid (Pl wr g2 m (mixW A F S m)) := by rw [← hkm]; rw [← hkm] at hP; exact unhide hP
      have hl9 : Hid (lf = leftW A F S m) := by rw [← hkm]; exact unhide hlf
      obtain ⟨r, hr⟩ : ∃ r, r = ((lf.toNat : Int) != 0) := ⟨_, rfl⟩
      have HR : Hid (StepR w wr B b ts m o g1 g2 S A c (.returned (.bool r))) := by
        obtain ⟨q1, ⟨ys, B', q2, q2'⟩, q3, q4, q5, q6, q7, q8, q9⟩ := unhide HM
        refine ⟨f', mixW A F S m, r, rfl, ⟨unhide hMr, ⟨ys, B', (unhide hsep).own q2 (by decide), q2'.kt ((unhide hsep).kt rfl)⟩, (unhide hFr).keep q3 q7, q4, unhide hP9, q6.fr (unhide hFr) (.inr rfl), q7, q8, q9⟩, ?_, ?_, unhide hB⟩
        · intro j hj
          rw [hasW_new _ _ _ _ _ hj]
          unfold stp
          rw [q4]
          congr 1
          cases j with
          | zero => rfl
          | succ i => simp only []; rw [unhide HFj]
        · intro hr0 j hj
          have h0 : lf = 0 := by
            rw [hr] at hr0
            have : (lf.toNat : Int) = 0 := by simpa using hr0
            apply BitVec.eq_of_toNat_eq
            simp
            omega
          rw [unhide hl9] at h0
          have := left_zero A F S m h0 (j / 64) (by omega)
          unfold hasW mixW
          rw [if_pos (by omega), this]; simp
      have hr2 := hide hr
      clear hr hP9 hl9 hFr hP hB hsep hMr hcy hlf hkm
      go_wp2_with fail
      go_ret
      rw [unhide hr2] at HR
      exact unhide HR
end Go.Proofs.Ytelijbnamiefcaa.Gl
