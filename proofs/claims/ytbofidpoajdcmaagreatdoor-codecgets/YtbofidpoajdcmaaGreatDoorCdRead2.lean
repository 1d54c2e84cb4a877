/- A reader's methods: length, text, textInto, dataInto. -/
import Derived.Test.YtbofidpoajdcmaaGreatDoorCdRead
import Derived.Test.YtbofidpoajdcmaaGreatDoorCdTell
import Derived.Lib.BufferRead
namespace Go.Proofs.YtbofidpoajdcmaaGreatDoor.Cd
open Go.RowKit Cu Tr

/-- what length answers -/
def LenR (S : List Addr) (w : World) (K rb : Nat) (o : Option (Nat × Bs)) (e : Ending) (w' : World) : Prop := Fr S w w' ∧
  match o with
  | some (x, r) => e = .returned (.tuple #[.int .i64 (x : Int), .bool true]) ∧ Rd w' K rb r
  | none => e = .returned (.tuple #[.int .i64 0, .bool false])
theorem numN_lt {k : Nat} {l : Bs} {x : Nat} {r : Bs} (h : numN k l = some (x, r)) : x < 256 ^ k := by
  unfold numN takeP at h
  split at h
  · simp at h
    have := val_lt (l.take k)
    rw [List.length_take, Nat.min_eq_left (by omega)] at this
    omega
  · simp at h
set_option maxHeartbeats 400000 in
set_option maxRecDepth 100000 in
theorem rlength_any (K rb m : Nat) (l : Bs) (w : World) (h : Rd w K rb l) (hm : m ≤ 65536) :
    Calls Tryz.prog 147 #[.pointer (some ⟨rb, 0, none⟩), .int .i64 (m : Int)] w (LenR [⟨rb, 0, none⟩] w K rb (lenP m l)) := by
  have hN := hide (number_any K rb 4 l w h (by omega))
  unfold lenP LenR
  unfold NumR at hN
  cases hp : numN 4 l with
  | none =>
    rw [hp] at hN
    simp only [Option.bind_none]
    go_enter Tryz.func147, Tryz.ntmps147
    go_wp2_with fail
    refine (unhide hN).mono ?_
    rintro e w1 ⟨hF, rfl⟩
    have HF := hide hF
    clear hN hF
    go_wp2_with fail
    go_ret2
    exact ⟨unhide HF, rfl⟩
  | some p =>
    obtain ⟨x, r⟩ := p
    have hx := numN_lt hp
    rw [hp] at hN
    simp only [Option.bind_some]
    by_cases hxm : x ≤ m
    · have hxm' : ¬ (m : Int) < (x : Int) := by omega
      rw [if_pos hxm]
      go_enter Tryz.func147, Tryz.ntmps147
      go_wp2_with fail
      refine (unhide hN).mono ?_
      rintro e w1 ⟨hF, rfl, hR⟩
      have HF := hide hF
      have HR := hide hR
      clear hN hF hR
      go_wp2_with fail
      go_ret2
      exact ⟨unhide HF, rfl, unhide HR⟩
    · have hxm' : (m : Int) < (x : Int) := by omega
      rw [if_neg hxm]
      go_enter Tryz.func147, Tryz.ntmps147
      go_wp2_with fail
      refine (unhide hN).mono ?_
      rintro e w1 ⟨hF, rfl, hR⟩
      have HF := hide hF
      clear hN hF hR
      go_wp2_with fail
      go_ret2
      exact ⟨unhide HF, rfl⟩
/-- what text answers -/
def TxtR (S : List Addr) (w : World) (K rb : Nat) (o : Option (Bs × Bs)) (e : Ending) (w' : World) : Prop := Fr S w w' ∧
  match o with
  | some (x, r) => ∃ a cap, e = .returned (.tuple #[.slice a x.length cap, .bool true]) ∧ By w' a x.length cap x ∧ Rd w' K rb r ∧ (0 < x.length → ∀ ad, a = some ad → ad.block < K)
  | none => e = .returned (.tuple #[.slice none 0 0, .bool false])
theorem takeP_len {k : Nat} {l x r : Bs} (h : takeP k l = some (x, r)) : x.length = k := by
  unfold takeP at h
  split at h
  · simp at h; rw [← h.1, List.length_take]; omega
  · simp at h
theorem lenP_le {m : Nat} {l : Bs} {x : Nat} {r : Bs} (h : lenP m l = some (x, r)) : x ≤ m := by
  unfold lenP at h
  simp only [Option.bind_eq_some_iff] at h
  obtain ⟨p, _, h⟩ := h
  split at h
  · rename_i hle
    injection h with h
    rw [h] at hle
    exact hle
  · simp at h
set_option maxHeartbeats 400000 in
set_option maxRecDepth 100000 in
theorem rtext_any (K rb : Nat) (l : Bs) (w : World) (h : Rd w K rb l) :
    Calls Tryz.prog 154 #[.pointer (some ⟨rb, 0, none⟩)] w (TxtR [⟨rb, 0, none⟩] w K rb (txtP l)) := by
  have hN := hide (rlength_any K rb 65536 l w h (by omega))
  unfold txtP TxtR
  unfold LenR at hN
  cases hp : lenP 65536 l with
  | none =>
    rw [hp] at hN
    simp only [Option.bind_none]
    go_enter Tryz.func154, Tryz.ntmps154
    go_wp2_with fail
    refine (unhide hN).mono ?_
    rintro e w1 ⟨hF, rfl⟩
    have HF := hide hF
    clear hN hF
    go_wp2_with fail
    go_ret2
    exact ⟨unhide HF, rfl⟩
  | some p =>
    obtain ⟨n, r⟩ := p
    have hn := lenP_le hp
    rw [hp] at hN
    simp only [Option.bind_some]
    cases hq : takeP n r with
    | none =>
      simp only
      go_enter Tryz.func154, Tryz.ntmps154
      go_wp2_with fail
      refine (unhide hN).mono ?_
      rintro e w1 ⟨hF, rfl, hR⟩
      have hT := hide (take_any K rb n r w1 hR (by omega))
      have HF := hide hF
      clear hN hF hR
      rw [hq] at hT
      go_wp2_with fail
      refine (unhide hT).mono ?_
      rintro e w2 ⟨hF2, rfl⟩
      have HF2 := hide hF2
      clear hT hF2
      go_wp2_with fail
      go_ret2
      exact ⟨(unhide HF).trans (unhide HF2), rfl⟩
    | some q =>
      obtain ⟨x, r2⟩ := q
      have hxl := takeP_len hq
      simp only
      subst hxl
      go_enter Tryz.func154, Tryz.ntmps154
      go_wp2_with fail
      refine (unhide hN).mono ?_
      rintro e w1 ⟨hF, rfl, hR⟩
      have hT := hide (take_any K rb x.length r w1 hR (by omega))
      have HF := hide hF
      clear hN hF hR
      rw [hq] at hT
      go_wp2_with fail
      refine (unhide hT).mono ?_
      rintro e w2 ⟨hF2, a, cap, rfl, hB, hR, hlo⟩
      have HF2 := hide hF2
      have HB := hide hB
      have HR := hide hR
      have HL := hide hlo
      clear hT hF2 hB hR hlo
      go_wp2_with fail
      go_ret2
      exact ⟨(unhide HF).trans (unhide HF2), a, cap, rfl, unhide HB, unhide HR, unhide HL⟩
theorem cv_by {w : World} {a : Option Addr} {n cap : Nat} {l : Bs} (h : By w a n cap l) : (convert 23 9 (.slice a n cap)).run Tryz.prog w = .ok (.string (ba l)) w := by
  have hn := h.len
  subst hn
  cases a with
  | none =>
    obtain ⟨h0, rfl⟩ := h.nil rfl
    have : l = [] := List.eq_nil_of_length_eq_zero h0
    subst this
    exact Lib.run_convert_nil_bytes w 23 9 5 0 Tryz.underlying23 Tryz.underlying5 Tryz.underlying9
  | some ad =>
    refine run_convert_bytes_back w 23 9 5 ad cap l Tryz.underlying23 Tryz.underlying5 Tryz.underlying9 ?_
    intro j hj
    exact By.news h ad rfl j _ (by simp [Lib.byteCells, List.getElem?_eq_getElem hj])
/-- a place into which something is read -/
structure Tg (w : World) (K rb : Nat) (t : Addr) (v : Value) : Prop where
  cell : w.cell? t = some v
  fz : w.frozen? t = false
  lo : K ≤ t.block
  lt : t.block < w.heap.size
  ne : t ≠ ⟨rb, 0, none⟩
theorem Tg.fr {S : List Addr} {w w' : World} {K rb : Nat} {t : Addr} {v : Value} (h : Tg w K rb t v) (hf : Fr S w w') (hn : t ∉ S) : Tg w' K rb t v :=
  ⟨(hf.cell _ h.lt hn).trans h.cell, (hf.frozen _ h.lt).trans h.fz, h.lo, Nat.lt_of_lt_of_le h.lt hf.size, h.ne⟩
/-- what textInto answers -/
def TInR (w : World) (K rb : Nat) (t : Addr) (o : Option (Bs × Bs)) (e : Ending) (w' : World) : Prop := Fr [⟨rb, 0, none⟩, t] w w' ∧
  match o with
  | some (x, r) => e = .returned (.bool true) ∧ Rd w' K rb r ∧ w'.cell? t = some (.string (ba x))
  | none => e = .returned (.bool false)
set_option maxHeartbeats 400000 in
set_option maxRecDepth 100000 in
theorem textInto_any (K rb tb to : Nat) (s : ByteArray) (l : Bs) (w : World) (h : Rd w K rb l) (ht : Tg w K rb ⟨tb, to, none⟩ (.string s)) :
    Calls Tryz.prog 142 #[.pointer (some ⟨rb, 0, none⟩), .pointer (some ⟨tb, to, none⟩)] w (TInR w K rb ⟨tb, to, none⟩ (txtP l)) := by
  have hN := hide (rtext_any K rb l w h)
  have HT := hide ht
  unfold TInR
  unfold TxtR at hN
  clear ht
  cases hp : txtP l with
  | none =>
    rw [hp] at hN
    simp only
    go_enter Tryz.func142, Tryz.ntmps142
    go_wp2_with fail
    refine (unhide hN).mono ?_
    rintro e w1 ⟨hF, rfl⟩
    have T1 := (unhide HT).fr hF (by simpa using (unhide HT).ne)
    have hcv := cv_by (w := w1) (a := none) (n := 0) (cap := 0) (l := []) ⟨rfl, Nat.le_refl _, fun _ => ⟨rfl, rfl⟩, .inl rfl⟩
    have hc := T1.cell
    have hfz := T1.fz
    have hlt := T1.lt
    have F2 := hide ((hF.mono (S' := [⟨rb, 0, none⟩, ⟨tb, to, none⟩]) (by simp)).trans ((Fr.set w1 ⟨tb, to, none⟩ (.string (ba []))).mono (by simp)))
    clear hN hF T1 HT
    generalize ba [] = z at *
    go_wp2_with fail
    go_ret
    exact ⟨unhide F2, rfl⟩
  | some p =>
    obtain ⟨x, r⟩ := p
    rw [hp] at hN
    simp only
    go_enter Tryz.func142, Tryz.ntmps142
    go_wp2_with fail
    refine (unhide hN).mono ?_
    rintro e w1 ⟨hF, a, cap, rfl, hB, hR, _⟩
    have T1 := (unhide HT).fr hF (by simpa using (unhide HT).ne)
    have hcv := cv_by hB
    have hc := T1.cell
    have hfz := T1.fz
    have hlt := T1.lt
    have F1 := Fr.set w1 ⟨tb, to, none⟩ (.string (ba x))
    have F2 := hide ((hF.mono (S' := [⟨rb, 0, none⟩, ⟨tb, to, none⟩]) (by simp)).trans (F1.mono (by simp)))
    have HR := hide (hR.fr F1 (by simpa using Ne.symm T1.ne) (by simpa using T1.lo))
    have hc2 := hide (World.cell?_setCell_same w1 ⟨tb, to, none⟩ (.string (ba x)) hc)
    clear hN hF T1 HT hB hR F1
    go_wp2_with fail
    go_ret
    exact ⟨unhide F2, rfl, unhide HR, unhide hc2⟩
/-- what dataInto answers -/
def DInR (w : World) (K rb : Nat) (t : Addr) (o : Option (Bs × Bs)) (e : Ending) (w' : World) : Prop := Fr [⟨rb, 0, none⟩, t] w w' ∧
  match o with
  | some (x, r) => e = .returned (.bool true) ∧ Rd w' K rb r ∧ ∃ v, w'.cell? t = some v ∧ Row w.heap.size v x w'
  | none => e = .returned (.bool false)
theorem row_kept {S : List Addr} {w w' : World} {B : Nat} {v : Value} {l : Bs} (h : Row B v l w) (hf : Fr S w w') (hs : ∀ k, v.ownBlock = some k → ∀ p ∈ S, p.block ≠ k) : Row B v l w' := by
  refine ⟨h.1, ?_⟩
  rcases h.2 with hn | ⟨g, cap, cur, hv, hb, hg, rest⟩
  · exact .inl hn
  · exact .inr ⟨g, cap, cur, hv, hb, (hf.block g (Array.getElem?_eq_some_iff.1 hg).1 (hs g (by rw [hv]; rfl))).trans hg, rest⟩
theorem Fr.of_grown {S : List Addr} {w w' : World} (h : w.grownBy w' none) : Fr S w w' := Fr.of_below ⟨h.os, h.tape, h.output, h.size, fun k hk => h.block k hk (by simp)⟩
set_option maxHeartbeats 400000 in
set_option maxRecDepth 100000 in
theorem dataInto_any (K rb tb to : Nat) (s : Value) (l : Bs) (w : World) (h : Rd w K rb l) (ht : Tg w K rb ⟨tb, to, none⟩ s) :
    Calls Tryz.prog 144 #[.pointer (some ⟨rb, 0, none⟩), .pointer (some ⟨tb, to, none⟩)] w (DInR w K rb ⟨tb, to, none⟩ (txtP l)) := by
  obtain ⟨i0, hi, hz0, hz1, hz2⟩ := info_parts Tryz.infoByte
  have hN := hide (rtext_any K rb l w h)
  have HT := hide ht
  unfold DInR
  unfold TxtR at hN
  clear ht
  cases hp : txtP l with
  | none =>
    rw [hp] at hN
    simp only
    go_enter Tryz.func144, Tryz.ntmps144
    go_wp2_with fail
    refine (unhide hN).mono ?_
    rintro e w1 ⟨hF, rfl⟩
    have T1 := (unhide HT).fr hF (by simpa using (unhide HT).ne)
    have hc := T1.cell
    have hfz := T1.fz
    have hlt := T1.lt
    have F2 := hide ((hF.mono (S' := [⟨rb, 0, none⟩, ⟨tb, to, none⟩]) (by simp)).trans ((Fr.set w1 ⟨tb, to, none⟩ (.slice none 0 0)).mono (by simp)))
    clear hN hF T1 HT
    go_wp2_with (at_builtin; refine wpList_append_own_none rfl _ _ 23 rfl 0 5 i0 1 Tryz.underlying23 hi (.slice none 0 0) 0 [] rfl (row_nil _ _) rfl ?_)
    go_ret
    exact ⟨unhide F2, rfl⟩
  | some p =>
    obtain ⟨x, r⟩ := p
    rw [hp] at hN
    simp only
    have hx5 : x.length ≤ 65536 := by
      unfold txtP at hp
      simp only [Option.bind_eq_some_iff] at hp
      obtain ⟨⟨n, r1⟩, h1, h2⟩ := hp
      rw [takeP_len h2]
      exact lenP_le h1
    go_enter Tryz.func144, Tryz.ntmps144
    go_wp2_with fail
    refine (unhide hN).mono ?_
    rintro e w1 ⟨hF, a, cap, rfl, hB, hR, _⟩
    have T1 := hide ((unhide HT).fr hF (by simpa using (unhide HT).ne))
    have HB := hide hB
    have HR := hide hR
    have HF := hide hF
    clear hN hF HT hB hR
    go_wp2_with (at_builtin; refine wpList_append_ontoA rfl _ _ 23 rfl w1.heap.size 5 i0 _ 1 1 Tryz.underlying23 hi hz0 hz1 hz2 rfl (by decide) _ 0 [] rfl (row_nil w1 _) a x.length cap (Lib.byteCells x) rfl (unhide HB).nil (by simp [Lib.byteCells]) (By.news (unhide HB)) (byteCells_one x) (by unfold maxLen; omega) (by omega) (Nat.le_refl _) ?_)
    intro v' w2 hO hG _
    have hRw : Row w1.heap.size v' x w2 := by simpa [Row] using hO
    have F2 : Fr [⟨tb, to, none⟩] w1 w2 := Fr.of_grown (by simpa [Value.ownBlock] using hG)
    have T2 : Tg w2 K rb ⟨tb, to, none⟩ s := (unhide T1).fr (Fr.of_grown (S := []) (by simpa [Value.ownBlock] using hG)) (by simp)
    obtain ⟨va, vc, rfl⟩ := row_slice hRw
    have F3 := Fr.set w2 ⟨tb, to, none⟩ (.slice va x.length vc)
    have F9 := hide (((unhide HF).mono (S' := [⟨rb, 0, none⟩, ⟨tb, to, none⟩]) (by simp)).trans ((F2.trans F3).mono (by simp)))
    have HR9 := hide ((unhide HR).fr (F2.trans F3) (by simpa using Ne.symm T2.ne) (by simpa using T2.lo))
    have hc9 := hide (World.cell?_setCell_same w2 ⟨tb, to, none⟩ (.slice va x.length vc) T2.cell)
    have hlt1 := (unhide T1).lt
    have hrow := hide (row_base (B' := w.heap.size) (row_kept hRw F3 (by
      intro k hk p hp
      simp at hp
      subst hp
      have := row_lo hRw k hk
      simp at hlt1 ⊢
      omega)) (unhide HF).size)
    have hc := T2.cell
    have hfz := T2.fz
    have hlt := T2.lt
    clear hO hG hRw F2 T2 F3 T1 HB HR HF hlt1
    go_wp2_with fail
    go_ret
    exact ⟨unhide F9, rfl, unhide HR9, _, unhide hc9, unhide hrow⟩
end Go.Proofs.YtbofidpoajdcmaaGreatDoor.Cd
