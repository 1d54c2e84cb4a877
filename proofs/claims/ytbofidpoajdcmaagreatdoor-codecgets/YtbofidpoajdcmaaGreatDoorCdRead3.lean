/- A reader's methods: numbersInto; areWhole. -/
import Derived.Test.YtbofidpoajdcmaaGreatDoorCdRead2
namespace Go.Proofs.YtbofidpoajdcmaaGreatDoor.Cd
open Go.RowKit Cu Tr

theorem intsP_snoc : ∀ (i : Nat) (l : Bs), intsP (i + 1) l = (intsP i l).bind fun p => (intP p.2).map fun q => (p.1 ++ [q.1], q.2)
  | 0, l => by
    simp only [intsP, Option.bind_some, Option.map_some, List.nil_append]
    cases intP l <;> rfl
  | i + 1, l => by
    show ((intP l).bind fun p => (intsP (i + 1) p.2).map fun q => (p.1 :: q.1, q.2)) = (((intP l).bind fun p => (intsP i p.2).map fun q => (p.1 :: q.1, q.2)).bind fun p => (intP p.2).map fun q => (p.1 ++ [q.1], q.2))
    cases intP l with
    | none => rfl
    | some p =>
      simp only [Option.bind_some]
      rw [intsP_snoc i]
      cases intsP i p.2 with
      | none => rfl
      | some q =>
        simp only [Option.bind_some, Option.map_some]
        cases intP q.2 <;> rfl
theorem intsP_none {i : Nat} {l : Bs} (h : intsP i l = none) (n : Nat) (hn : i ≤ n) : intsP n l = none := by
  induction n with
  | zero => have : i = 0 := by omega
            subst this; exact h
  | succ n ih =>
    by_cases e : i = n + 1
    · rw [← e]; exact h
    · rw [intsP_snoc, ih (by omega)]; rfl
theorem intsP_len : ∀ {i : Nat} {l : Bs} {zs : List Int} {r : Bs}, intsP i l = some (zs, r) → zs.length = i
  | 0, l, zs, r, h => by simp [intsP] at h; rw [h.1]; rfl
  | i + 1, l, zs, r, h => by
    simp only [intsP, Option.bind_eq_some_iff, Option.map_eq_some_iff] at h
    obtain ⟨p, _, q, hq, h⟩ := h
    injection h with h1 h2
    rw [← h1, List.length_cons, intsP_len (zs := q.1) (r := q.2) hq]
theorem wrap_i64 (x : Nat) (h : x < 18446744073709551616) : IntKind.i64.wrap (x : Int) = s64 x := by
  unfold s64
  simp only [IntKind.wrap, IntKind.signed, IntKind.bits, Bool.true_and]
  by_cases h2 : x < 9223372036854775808
  · rw [if_pos h2, if_neg (by simp; omega)]; omega
  · rw [if_neg h2, if_pos (by simp; omega)]; omega
/-- places as pointers, in a block -/
def Ptrs (w : World) (pb : Nat) (ts : List Addr) : Prop := w.heap[pb]? = some (.cells (ts.map fun t => Value.pointer (some t)).toArray 192 (0, 0))
theorem Ptrs.cell {w : World} {pb : Nat} {ts : List Addr} (h : Ptrs w pb ts) (i : Nat) (hi : i < ts.length) : w.cell? ⟨pb, i, none⟩ = some (.pointer (some ts[i])) := by
  rw [cell_of_row _ _ _ _ _ _ h]
  simp [List.getElem?_eq_getElem hi]
/-- places into which numbers are read -/
structure Tgs (w : World) (K rb pb : Nat) (ts : List Addr) : Prop where
  nd : ts.Nodup
  tg : ∀ t ∈ ts, ∃ z, Tg w K rb t (.int .i64 z)
  pb : ∀ t ∈ ts, t.block ≠ pb
  lit : ∀ t ∈ ts, t.spot = none
/-- what numbersInto answers -/
def NInR (w : World) (K rb : Nat) (ts : List Addr) (o : Option (List Int × Bs)) (e : Ending) (w' : World) : Prop := Fr (⟨rb, 0, none⟩ :: ts) w w' ∧
  match o with
  | some (zs, r) => e = .returned (.bool true) ∧ Rd w' K rb r ∧ ∀ (j : Nat) (t : Addr) (z : Int), ts[j]? = some t → zs[j]? = some z → w'.cell? t = some (.int .i64 z)
  | none => e = .returned (.bool false)
/-- so far as the loop has come -/
structure Nk (w : World) (K rb pb : Nat) (ts : List Addr) (l : Bs) (i : Nat) (wr : World) : Prop where
  fr : Fr (⟨rb, 0, none⟩ :: ts) w wr
  tgs : Tgs wr K rb pb ts
  ptrs : Ptrs wr pb ts
  ex : ∃ zs r, intsP i l = some (zs, r) ∧ Rd wr K rb r ∧ ∀ (j : Nat) (t : Addr) (z : Int), ts[j]? = some t → zs[j]? = some z → wr.cell? t = some (.int .i64 z)
theorem Nk.step {w : World} {K rb pb : Nat} {ts : List Addr} {l : Bs} {i : Nat} {wr w1 : World} {zs : List Int} {r r2 : Bs} {z : Int} {t : Addr}
    (h : Nk w K rb pb ts l i wr) (ht : ts[i]? = some t) (hpb : pb ≠ rb) (hzs : intsP i l = some (zs, r)) (hold : ∀ (j : Nat) (t : Addr) (z : Int), ts[j]? = some t → zs[j]? = some z → wr.cell? t = some (.int .i64 z)) (hz : intP r = some (z, r2)) (hF : Fr [⟨rb, 0, none⟩] wr w1) (hR : Rd w1 K rb r2) :
    Nk w K rb pb ts l (i + 1) (w1.setCell t (.int .i64 z)) := by
  have htm : t ∈ ts := List.mem_of_getElem? ht
  obtain ⟨z0, T0⟩ := h.tgs.tg t htm
  have T1 := T0.fr hF (by simpa using T0.ne)
  have F2 := Fr.set w1 t (.int .i64 z)
  have Fall : Fr (⟨rb, 0, none⟩ :: ts) wr (w1.setCell t (.int .i64 z)) := (hF.mono (by simp)).trans (F2.mono (by simp [htm]))
  have Fboth : Fr [⟨rb, 0, none⟩, t] wr (w1.setCell t (.int .i64 z)) := (hF.mono (by simp)).trans (F2.mono (by simp))
  have hlen := intsP_len hzs
  refine ⟨h.fr.trans Fall, ⟨h.tgs.nd, ?_, h.tgs.pb, h.tgs.lit⟩, ?_, zs ++ [z], r2, ?_, ?_, ?_⟩
  · intro u hu
    obtain ⟨z1, U⟩ := h.tgs.tg u hu
    by_cases e : u = t
    · subst e
      exact ⟨z, World.cell?_setCell_same _ _ _ T1.cell, (F2.frozen _ T1.lt).trans T1.fz, T1.lo, Nat.lt_of_lt_of_le T1.lt F2.size, T1.ne⟩
    · exact ⟨z1, U.fr Fboth (by simp [e, U.ne])⟩
  · exact (Fboth.block pb (Array.getElem?_eq_some_iff.1 h.ptrs).1 (by simp [Ne.symm hpb, h.tgs.pb t htm])).trans h.ptrs
  · rw [intsP_snoc, hzs]; simp [hz]
  · exact hR.fr F2 (by simpa using Ne.symm T1.ne) (by simpa using T1.lo)
  · intro j u y hu hy
    by_cases e : j < zs.length
    · rw [List.getElem?_append_left e] at hy
      have hne : u ≠ t := fun e2 => by
        subst e2
        have := (List.getElem?_inj (List.getElem?_eq_some_iff.1 hu).1 h.tgs.nd).1 (hu.trans ht.symm)
        omega
      obtain ⟨z1, U⟩ := h.tgs.tg u (List.mem_of_getElem? hu)
      rw [Fboth.cell u U.lt (by simp [hne, U.ne])]
      exact hold j u y hu hy
    · rw [List.getElem?_append_right (by omega)] at hy
      have hj : j = zs.length := by
        have := (List.getElem?_eq_some_iff.1 hy).1
        simp at this; omega
      subst hj
      simp at hy
      subst hy
      rw [hlen, ht] at hu
      injection hu with hu
      subst hu
      exact World.cell?_setCell_same _ _ _ T1.cell
set_option maxHeartbeats 1000000 in
set_option maxRecDepth 100000 in
theorem numbersInto_any (K rb pb n : Nat) (ts : List Addr) (l : Bs) (w : World) (h : Rd w K rb l) (hT : Tgs w K rb pb ts) (hP : Ptrs w pb ts) (hpb : pb ≠ rb) (hn : ts.length = n) (hn9 : n ≤ 64) :
    Calls Tryz.prog 143 #[.pointer (some ⟨rb, 0, none⟩), .slice (some ⟨pb, 0, none⟩) n n] w (NInR w K rb ts (intsP n l)) := by
  have h0 : Hid (Nk w K rb pb ts l 0 w) := ⟨Fr.refl _ _, hT, hP, [], l, rfl, h, fun j t z _ hz => by simp at hz⟩
  have HPB := hide hpb
  clear h hT hP hpb
  go_enter Tryz.func143, Tryz.ntmps143
  go_wp2_with fail
  go_loopw [11] (fun v wr => ∃ i : Nat, i ≤ n ∧ v = .int .i64 i ∧ Hid (Nk w K rb pb ts l i wr)) (fun v _ => n - (intOf v).toNat)
  case atStart => exact ⟨0, Nat.zero_le _, rfl, h0⟩
  case round =>
    clear h0
    obtain ⟨i, hi, rfl, hN⟩ := hrel
    obtain ⟨zs, r, hzs, hR, hold⟩ := (unhide hN).ex
    by_cases hlt : i < n
    · have hlt' : (i : Int) < (n : Int) := by omega
      have hil : i < ts.length := by omega
      have hc := (unhide hN).ptrs.cell i hil
      have hti : ts[i]? = some ts[i] := List.getElem?_eq_getElem hil
      generalize ts[i] = t at *
      obtain ⟨z0, T0⟩ := (unhide hN).tgs.tg t (List.mem_of_getElem? hti)
      have hsp := (unhide hN).tgs.lit t (List.mem_of_getElem? hti)
      obtain ⟨tb, to, sp⟩ := t
      simp only at hsp
      subst hsp
      have hM := hide (number_any K rb 8 r wr hR (by omega))
      unfold NumR at hM
      have HZ := hide hzs
      have HO := hide hold
      have HT0 := hide T0
      have HTI := hide hti
      cases hp : numN 8 r with
      | none =>
        have hno : Hid (intsP n l = none) := hide (intsP_none (i := i + 1) (by rw [intsP_snoc, hzs]; simp [intP, hp]) n (by omega))
        rw [hp] at hM
        clear hzs hold hR T0 hti hil
        go_wp2_with fail
        refine (unhide hM).mono ?_
        rintro e w1 ⟨hF, rfl⟩
        have HF := hide ((unhide hN).fr.trans (hF.mono (by simp)))
        clear hM hF
        go_wp2_with fail
        go_ret
        unfold NInR
        rw [unhide hno]
        exact ⟨unhide HF, rfl⟩
      | some p =>
        obtain ⟨x, r2⟩ := p
        have hx := numN_lt hp
        have hint : Hid (intP r = some (s64 x, r2)) := hide (by simp [intP, hp])
        have hw := wrap_i64 x (by omega)
        rw [hp] at hM
        clear hzs hold hR T0 hti hil
        go_wp2_with fail
        refine (unhide hM).mono ?_
        rintro e w1 ⟨hF, rfl, hR1⟩
        have T1 := (unhide HT0).fr hF (by simpa using (unhide HT0).ne)
        have hc1 := T1.cell
        have hfz1 := T1.fz
        have hlt1 := T1.lt
        have N2 := hide ((unhide hN).step (unhide HTI) (unhide HPB) (unhide HZ) (unhide HO) (unhide hint) hF hR1)
        generalize s64 x = z at *
        clear hM hF hR1 T1 hint
        go_wp2_with fail
        go_roundw
        case rel => exact ⟨i + 1, by omega, by go_num, N2⟩
        case measure => simp [intOf]; omega
    · obtain rfl : i = n := by omega
      have HZ := hide hzs
      have HR := hide hR
      have HO := hide hold
      clear hzs hR hold
      go_wp2_with fail
      go_ret
      unfold NInR
      rw [unhide HZ]
      exact ⟨(unhide hN).fr, rfl, unhide HR, unhide HO⟩
/-- functions as values, in a block: methods of one receiver -/
def Fns (w : World) (fb : Nat) (ids : List Nat) (r : Value) : Prop := w.heap[fb]? = some (.cells (ids.map fun i => Value.func (.func i) #[r] #[]).toArray 29 (0, 0))
theorem Fns.cell {w : World} {fb : Nat} {ids : List Nat} {r : Value} (h : Fns w fb ids r) (i : Nat) (hi : i < ids.length) : w.cell? ⟨fb, i, none⟩ = some (.func (.func ids[i]) #[r] #[]) := by
  rw [cell_of_row _ _ _ _ _ _ h]
  simp [List.getElem?_eq_getElem hi]
set_option maxHeartbeats 1000000 in
set_option maxRecDepth 100000 in
/-- parts that are read one behind the other: J i holds ahead of the part i, G behind a part that is not whole -/
theorem areWhole_any (fb n : Nat) (ids : List Nat) (r : Value) (J : Nat → World → Prop) (G : World → Prop) (w : World) (hn : ids.length = n) (hn9 : n ≤ 64)
    (hf : ∀ i ∈ ids, ∀ args w', (callFunc i args).run Tryz.prog w' = .ok (.enter i args) w') (hF : ∀ i wr, J i wr → Fns wr fb ids r)
    (hJ : ∀ i id wr, ids[i]? = some id → J i wr → Calls Tryz.prog id #[r] wr fun e w' => (e = .returned (.bool true) ∧ J (i + 1) w') ∨ (e = .returned (.bool false) ∧ G w')) (h0 : J 0 w) :
    Calls Tryz.prog 77 #[.slice (some ⟨fb, 0, none⟩) n n] w fun e w' => (e = .returned (.bool true) ∧ J n w') ∨ (e = .returned (.bool false) ∧ G w') := by
  have H0 := hide h0
  have HFn := hide hF
  have HJ := hide hJ
  clear h0 hF hJ
  go_enter Tryz.func77, Tryz.ntmps77
  go_wp2_with fail
  go_loopw [7] (fun v wr => ∃ i : Nat, i ≤ n ∧ v = .int .i64 i ∧ Hid (J i wr)) (fun v _ => n - (intOf v).toNat)
  case atStart => exact ⟨0, Nat.zero_le _, rfl, H0⟩
  case round =>
    clear H0
    obtain ⟨i, hi, rfl, hN⟩ := hrel
    by_cases hlt : i < n
    · have hlt' : (i : Int) < (n : Int) := by omega
      have hil : i < ids.length := by omega
      have hc := (unhide HFn i wr (unhide hN)).cell i hil
      have hid : ids[i]? = some ids[i] := List.getElem?_eq_getElem hil
      have hcf := hf ids[i] (List.getElem_mem hil)
      generalize ids[i] = id at *
      have hM := hide (unhide HJ i id wr hid (unhide hN))
      clear hid hil
      go_wp2_with fail
      refine (unhide hM).mono ?_
      rintro e w1 (⟨rfl, h1⟩ | ⟨rfl, h1⟩)
      · have H1 := hide h1
        clear h1 hM hc
        go_wp2_with fail
        go_roundw
        case rel => exact ⟨i + 1, by omega, by go_num, H1⟩
        case measure => simp [intOf]; omega
      · have H1 := hide h1
        clear h1 hM hc
        go_wp2_with fail
        go_ret
        exact .inr ⟨rfl, unhide H1⟩
    · obtain rfl : i = n := by omega
      go_wp2_with fail
      go_ret
      exact .inl ⟨rfl, unhide hN⟩
end Go.Proofs.YtbofidpoajdcmaaGreatDoor.Cd
