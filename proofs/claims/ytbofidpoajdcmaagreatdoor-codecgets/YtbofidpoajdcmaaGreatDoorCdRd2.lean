/- The document's reader: count, text. -/
import Derived.Test.YtbofidpoajdcmaaGreatDoorCdRd
namespace Go.Proofs.YtbofidpoajdcmaaGreatDoor.Cd
open Go.RowKit Cu Tr

theorem or_i64 (a b : Nat) (ha : a < 2 ^ 32) (hb : b < 2 ^ 32) : bits .or .i64 (a : Int) (b : Int) = ((a ||| b : Nat) : Int) := by
  have h := Nat.or_lt_two_pow ha hb
  show IntKind.i64.wrap ((BitVec.ofInt 64 (a : Int) ||| BitVec.ofInt 64 (b : Int)).toNat : Int) = _
  rw [BitVec.ofInt_natCast, BitVec.ofInt_natCast, BitVec.toNat_or, BitVec.toNat_ofNat, BitVec.toNat_ofNat, Nat.mod_eq_of_lt (by omega), Nat.mod_eq_of_lt (by omega)]
  simp only [IntKind.wrap, IntKind.signed, IntKind.bits, Bool.true_and]
  rw [if_neg (by simp; omega)]
  omega
theorem val4 (a b c d : Nat) (ha : a < 256) (hb : b < 256) (hc : c < 256) (hd : d < 256) :
    bits .or .i64 (bits .or .i64 (bits .or .i64 (a : Int) ((b : Int) * 256)) ((c : Int) * 65536)) ((d : Int) * 16777216) = ((a + 256 * (b + 256 * (c + 256 * d)) : Nat) : Int) := by
  have e1 : (b : Int) * 256 = ((b * 256 ^ 1 : Nat) : Int) := by omega
  have e2 : (c : Int) * 65536 = ((c * 256 ^ 2 : Nat) : Int) := by omega
  have e3 : (d : Int) * 16777216 = ((d * 256 ^ 3 : Nat) : Int) := by omega
  rw [e1, e2, e3, or_i64 _ _ (by omega) (by omega), or_add _ _ 1 (by omega), or_i64 _ _ (by omega) (by omega), or_add _ _ 2 (by omega), or_i64 _ _ (by omega) (by omega), or_add _ _ 3 (by omega)]
  congr 1
  omega
/-- what count answers -/
def Cnt9 (w : World) (rb : Nat) (a : Option Addr) (n cap : Nat) (l : Bs) (o : Option (Nat × Bs)) (e : Ending) (w' : World) : Prop := Fr (S9 rb) w w' ∧ ∃ z : Nat, e = .returned (.int .i64 (z : Int)) ∧ z ≤ 65536 ∧
  match o with
  | some (y, r) => z = y ∧ Rr w' rb a n cap l (some r)
  | none => Rr w' rb a n cap l none
theorem lenP_map (m : Nat) (st : Option Bs) : st.bind (lenP m) = (st.bind (takeP 4)).bind fun p => if val p.1 ≤ m then some (val p.1, p.2) else none := by
  cases st with
  | none => rfl
  | some l =>
    simp only [Option.bind_some, lenP, numN]
    cases takeP 4 l <;> rfl
theorem four_of {x : Bs} (h : 4 ≤ x.length) : val (x.take 4) = (x.getD 0 0).toNat + 256 * ((x.getD 1 0).toNat + 256 * ((x.getD 2 0).toNat + 256 * (x.getD 3 0).toNat)) := by
  match x, h with
  | a :: b :: c :: d :: r, _ => simp [val, List.getD]
set_option maxHeartbeats 1000000 in
set_option maxRecDepth 100000 in
theorem cnt9_any (rb : Nat) (a : Option Addr) (n cap : Nat) (l : Bs) (st : Option Bs) (m : Nat) (w : World) (h : Rr w rb a n cap l st) (hm6 : m ≤ 65536) :
    Calls Tryz.prog 89 #[.pointer (some ⟨rb, 0, none⟩), .int .i64 (m : Int)] w (Cnt9 w rb a n cap l (st.bind (lenP m))) := by
  have T := hide (take9_any rb a n cap l st 4 w h (by omega))
  unfold Tk9 at T
  rw [lenP_map]
  clear h
  go_enter Tryz.func89, Tryz.ntmps89
  go_wp2_with fail
  refine (unhide T).mono ?_
  rintro e w1 ⟨hF, a', k, c, x, rfl, hB, hm⟩
  have hx4 : 4 ≤ x.length := by
    cases ho : st.bind (takeP 4) with
    | none => rw [ho] at hm; rw [hm.1]; simp
    | some p => rw [ho] at hm; rw [hm.1, take_len9 (x := p.1) (r := p.2) ho]; exact Nat.le_refl _
  have hxk := hB.len
  have hk4 : 4 ≤ k := by omega
  obtain ⟨b, off, rfl, hbl, hc⟩ := by_byte hB (by omega)
  have k0 := hc 0 (by omega)
  have k1 := hc 1 (by omega)
  have k2 := hc 2 (by omega)
  have k3 := hc 3 (by omega)
  rw [Nat.add_zero] at k0
  have HV := hide (four_of hx4)
  have HF := hide hF
  have HM := hide hm
  have p0 := (x.getD 0 0).toNat_lt
  have p1 := (x.getD 1 0).toNat_lt
  have p2 := (x.getD 2 0).toNat_lt
  have p3 := (x.getD 3 0).toNat_lt
  have hx4' : 1 < k := by omega
  have hx42 : 2 < k := by omega
  have hx43 : 3 < k := by omega
  have hx40 : 0 < k := by omega
  generalize (x.getD 0 0).toNat = q0 at *
  generalize (x.getD 1 0).toNat = q1 at *
  generalize (x.getD 2 0).toNat = q2 at *
  generalize (x.getD 3 0).toNat = q3 at *
  have hval := val4 q0 q1 q2 q3 (by omega) (by omega) (by omega) (by omega)
  clear T hF hm hB hc hx4 hxk
  go_wp2_with fail
  go_region
  obtain ⟨Z, hZ⟩ : ∃ Z : Nat, Z = q0 + 256 * (q1 + 256 * (q2 + 256 * q3)) := ⟨_, rfl⟩
  have hZi : (q0 : Int) + 256 * ((q1 : Int) + 256 * ((q2 : Int) + 256 * (q3 : Int))) = (Z : Int) := by omega
  rw [← hZ] at HV
  simp only [hZi]
  have HFd : Hid (Fr (S9 rb) w w1.drew) := (unhide HF).drew 1
  have HRd : ∀ st', Rr w1 rb a n cap l st' → Rr w1.drew rb a n cap l st' := fun st' hr => hr.off (below_drew9 (Below.refl _ _))
  cases ho : st.bind (takeP 4) with
  | none =>
    have hm := unhide HM
    rw [ho] at hm
    have hZ0 : Z = 0 := by
      have := unhide HV
      rw [hm.1] at this
      rw [← this]
      rfl
    have HR := hide (HRd _ hm.2)
    subst hZ0
    have HO := hide ho
    clear hZi hZ HV HM HF hval HRd k0 k1 k2 k3 p0 p1 p2 p3 ho hm
    have hcm : ¬ (m : Int) < 0 := by omega
    rw [show ((0 : Nat) : Int) = 0 from rfl]
    go_wp2_with fail
    go_ret
    rw [unhide HO]
    exact ⟨unhide HFd, 0, rfl, by omega, unhide HR⟩
  | some p =>
    obtain ⟨y, r⟩ := p
    have hm := unhide HM
    rw [ho] at hm
    have hy := take_len9 ho
    have hZv : val y = Z := by
      have := unhide HV
      rw [hm.1, List.take_of_length_le (by omega)] at this
      exact this
    have HR := hide (HRd _ hm.2)
    clear hZi hZ HV HM HF hval HRd k0 k1 k2 k3 p0 p1 p2 p3 hm hy
    by_cases hc : Z ≤ m
    · have hcm : ¬ (m : Int) < (Z : Int) := by omega
      have HQ : Hid ((st.bind (takeP 4)).bind (fun p => if val p.1 ≤ m then some (val p.1, p.2) else none) = some (Z, r)) := hide (by rw [ho]; simp [hZv, hc])
      clear ho hZv
      go_wp2_with fail
      go_ret
      rw [unhide HQ]
      exact ⟨unhide HFd, Z, rfl, by omega, rfl, unhide HR⟩
    · have hcm : (m : Int) < (Z : Int) := by omega
      have HQ : Hid ((st.bind (takeP 4)).bind (fun p => if val p.1 ≤ m then some (val p.1, p.2) else none) = none) := hide (by rw [ho]; simp [hZv, hc])
      clear ho hZv
      obtain ⟨i, bad, c1, c2, hi, _⟩ := (unhide HR).ex
      have f2 := (unhide HR).fz 2
      have hlt := (unhide HR).lt
      have F2 := (Fr.set w1.drew ⟨rb, 2, none⟩ (.bool true)).mono (S' := S9 rb) (by simp)
      have R2 : Hid (Rr (w1.drew.setCell ⟨rb, 2, none⟩ (.bool true)) rb a n cap l none) := (unhide HR).keep F2 ⟨i, true, (World.cell?_setCell_other _ _ _ _ (by simp)).trans c1, World.cell?_setCell_same _ _ _ c2, hi, rfl⟩
      have F3 := hide ((unhide HFd).trans F2)
      clear HR F2 c1 hi
      go_wp2_with fail
      go_ret
      rw [unhide HQ]
      exact ⟨unhide F3, 0, rfl, by omega, unhide R2⟩
/-- what text answers -/
def Txt9 (w : World) (rb : Nat) (a : Option Addr) (n cap : Nat) (l : Bs) (o : Option (Bs × Bs)) (e : Ending) (w' : World) : Prop := Fr (S9 rb) w w' ∧ ∃ s : ByteArray, e = .returned (.string s) ∧
  match o with
  | some (y, r) => s = ba y ∧ Rr w' rb a n cap l (some r)
  | none => Rr w' rb a n cap l none
theorem txtP_map (st : Option Bs) : st.bind txtP = (st.bind (lenP 65536)).bind fun p => takeP p.1 p.2 := by
  cases st <;> rfl
set_option maxHeartbeats 1000000 in
set_option maxRecDepth 100000 in
theorem txt9_any (rb : Nat) (a : Option Addr) (n cap : Nat) (l : Bs) (st : Option Bs) (w : World) (h : Rr w rb a n cap l st) :
    Calls Tryz.prog 80 #[.pointer (some ⟨rb, 0, none⟩)] w (Txt9 w rb a n cap l (st.bind txtP)) := by
  have T := hide (cnt9_any rb a n cap l st 65536 w h (by omega))
  unfold Cnt9 at T
  rw [txtP_map]
  clear h
  go_enter Tryz.func80, Tryz.ntmps80
  go_wp2_with fail
  refine (unhide T).mono ?_
  rintro e w1 ⟨hF, z, rfl, hz, hm⟩
  have HF := hide hF
  cases ho : st.bind (lenP 65536) with
  | none =>
    rw [ho] at hm
    have T2 := hide (take9_any rb a n cap l none z w1 hm (by omega))
    unfold Tk9 at T2
    simp only [Option.bind_none] at T2
    have HQ : Hid ((st.bind (lenP 65536)).bind (fun p => takeP p.1 p.2) = none) := hide (by rw [ho]; rfl)
    clear T hF hm ho
    go_wp2_with fail
    refine (unhide T2).mono ?_
    rintro e w2 ⟨hF2, a', k, c, x, rfl, hB, rfl, hR⟩
    obtain ⟨i, bad, c1, c2, hi, hb⟩ := hR.ex
    simp only at hb
    subst hb
    have hlt := hR.lt
    have F2 := hide ((unhide HF).trans hF2)
    have HR := hide hR
    clear T2 hF2 hB hR c1 hi
    go_wp2_with fail
    go_ret
    rw [unhide HQ]
    exact ⟨unhide F2, _, rfl, unhide HR⟩
  | some p =>
    obtain ⟨y, r⟩ := p
    rw [ho] at hm
    obtain ⟨rfl, hR1⟩ := hm
    have T2 := hide (take9_any rb a n cap l (some r) z w1 hR1 (by omega))
    unfold Tk9 at T2
    simp only [Option.bind_some] at T2
    clear T hF hR1
    go_wp2_with fail
    refine (unhide T2).mono ?_
    rintro e w2 ⟨hF2, a', k, c, x, rfl, hB, hm⟩
    have F2 := hide ((unhide HF).trans hF2)
    cases hq : takeP z r with
    | none =>
      rw [hq] at hm
      obtain ⟨rfl, hR⟩ := hm
      obtain ⟨i, bad, c1, c2, hi, hb⟩ := hR.ex
      simp only at hb
      subst hb
      have hlt := hR.lt
      have HR := hide hR
      have HQ : Hid ((st.bind (lenP 65536)).bind (fun p => takeP p.1 p.2) = none) := hide (by rw [ho]; exact hq)
      clear T2 hF2 hB hR c1 hi hq ho
      go_wp2_with fail
      go_ret
      rw [unhide HQ]
      exact ⟨unhide F2, _, rfl, unhide HR⟩
    | some q =>
      obtain ⟨y, r2⟩ := q
      rw [hq] at hm
      obtain ⟨rfl, hR⟩ := hm
      obtain ⟨i, bad, c1, c2, hi, hb⟩ := hR.ex
      simp only at hb
      obtain ⟨rfl, hb⟩ := hb
      have hlt := hR.lt
      have HR := hide hR
      have hcv := cv_by hB
      have HQ : Hid ((st.bind (lenP 65536)).bind (fun p => takeP p.1 p.2) = some (x, r2)) := hide (by rw [ho]; exact hq)
      clear T2 hF2 hB hR c1 hi hq hb ho
      go_wp2_with fail
      go_ret
      rw [unhide HQ]
      exact ⟨unhide F2, _, rfl, rfl, unhide HR⟩
end Go.Proofs.YtbofidpoajdcmaaGreatDoor.Cd
