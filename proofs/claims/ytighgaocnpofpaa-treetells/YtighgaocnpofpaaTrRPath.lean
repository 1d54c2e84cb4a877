/- What the document's Path answers. -/
import Derived.Test.YtighgaocnpofpaaTrRSizes
namespace Go.Proofs.Ytighgaocnpofpaa.Tr
open Go.RowKit Go.Proofs.Ytighgaocnpofpaa.Cu

/-- names put ahead of a text, one after the other -/
def goS (s : ByteArray) (l : List ByteArray) : ByteArray := l.foldl (fun s nm => ⟨#[47]⟩ ++ nm ++ s) s
theorem goS_app (s : ByteArray) (l l' : List ByteArray) : goS s (l ++ l') = goS (goS s l) l' := by simp [goS]
theorem goS_list (l : List ByteArray) : ∀ s : ByteArray, bs (goS s l) = (l.reverse.map fun nm => 47 :: bs nm).flatten ++ bs s := by
  induction l with
  | nil => intro s; rfl
  | cons x l ih =>
    intro s
    have e : goS s (x :: l) = goS (⟨#[47]⟩ ++ x ++ s) l := rfl
    rw [e, ih]
    have e2 : bs (⟨#[47]⟩ ++ x ++ s : ByteArray) = 47 :: bs x ++ bs s := by
      show (⟨#[47]⟩ ++ x ++ s : ByteArray).data.toList = _
      simp [bs]
    rw [e2]
    simp
theorem join_flat (l : List ByteArray) (x : ByteArray) : (47 : UInt8) :: Lib.join ((x :: l).map (·.data.toList)) [47] = ((x :: l).map fun nm => 47 :: bs nm).flatten := by
  rw [List.map_cons, Lib.join_cons]
  simp [Lib.joinTail, bs, Function.comp_def]
theorem name_le {now : Int} {ns : List Nd} (hc : checkP now ns = true) {p k : Nat} (hp : p < ns.length) (hk : k < (nd ns p).list.length) : (en (nd ns p).list k).name.size ≤ 64 := by
  have hkp := (checkP_parts hc).2.2.2.2.2.1 p hp
  have hd : (nd ns p).kind = 2 := Decidable.byContradiction fun h => by have := list_of_kind hkp h; omega
  unfold kindP at hkp
  rw [if_neg (by rw [hd]; decide), if_neg (by rw [hd]; decide), if_pos hd] at hkp
  simp only [dirP, listP, Bool.and_eq_true] at hkp
  have ho := allTo_true.1 hkp.1.1.2.2 k hk
  simp only [okE, nameP, Bool.and_eq_true, decide_eq_true_eq] at ho
  exact ho.1.1.1.1.1.2
theorem list_le {now : Int} {ns : List Nd} (hc : checkP now ns = true) {p : Nat} (hp : p < ns.length) : (nd ns p).list.length ≤ 512 := by
  have hkp := (checkP_parts hc).2.2.2.2.2.1 p hp
  by_cases hd : (nd ns p).kind = 2
  · unfold kindP at hkp
    rw [if_neg (by rw [hd]; decide), if_neg (by rw [hd]; decide), if_pos hd] at hkp
    simp only [dirP, listP, Bool.and_eq_true, decide_eq_true_eq] at hkp
    exact hkp.1.1.2.1
  · have := list_of_kind hkp hd; omega
set_option maxRecDepth 100000 in
set_option maxHeartbeats 1000000 in
theorem rpath_up (b off n cap : Nat) (ns : List Nd) (now : Int) (x : Nat) (w : World) (h : Ng w (some ⟨b, off, none⟩) n cap ns) (hs : Sm ns) (hr : ∀ i, i < n → Rb (nd ns i)) (hd : isDirP now ns (x : Int) = true) (hx1 : ¬ x = 1) :
    Calls Try.prog 15 #[.agg #[.slice (some ⟨b, off, none⟩) n cap, .int .i64 now], .int .i64 (x : Int)] w fun e w' => e = .returned (.tuple #[.string (goS ⟨#[]⟩ (namesUp ns (depN ns 32 x) x)), .int .i64 0]) ∧ Below w.heap.size w w' := by
  have HC : Hid (∀ W, Below w.heap.size w W → Calls Try.prog 45 #[.agg #[.slice (some ⟨b, off, none⟩) n cap, .int .i64 now], .int .i64 (x : Int)] W fun e w' => e = .returned (.bool true) ∧ Below W.heap.size W w') := fun W hW => by rw [← hd]; exact rdir_any _ n cap ns now x W (h.below hW) hs hr
  have HB1 : Hid (Below w.heap.size w (w.alloc (.cells #[.slice (some ⟨b, off, none⟩) n cap, .int .i64 now] 24))) := (Below.refl _ _).alloc (Nat.le_refl _) _
  have hx1' : ((x : Int) == 1) = false := by simp; omega
  go_enter Try.func15, Try.ntmps15
  go_wp2_with fail
  refine (unhide HC _ (unhide HB1)).mono ?_
  rintro e w1 ⟨rfl, b1⟩
  have hB := hide (box_keep b1).2.1
  have HX := hide (box_keep b1).1
  clear b1 HC
  go_wp2_with fail
  have hcp : checkP now ns = true := by
    have h1 := hd
    unfold isDirP nodeP at h1
    simp only [Bool.and_eq_true] at h1
    exact h1.1.1.1.1
  obtain ⟨hu, hs32⟩ := dir_up hd
  have HCP := hide hcp
  have HL := hide h.len
  obtain ⟨d, hde⟩ : ∃ d, d = depN ns 32 x := ⟨_, rfl⟩
  rw [← hde] at hu hs32
  obtain ⟨R, hRe⟩ : ∃ R, Hid (R = goS ⟨#[]⟩ (namesUp ns d x)) := ⟨_, rfl⟩
  have HR0 : Hid (R = goS ⟨#[]⟩ (namesUp ns (depN ns 32 x) x)) := by rw [← hde]; exact unhide hRe
  have HU := hide hu
  have HN : Hid (∀ i, i < n → Nx w b (off + i * 10) (nd ns i)) := fun i hi => by
    rcases h.cells with h0 | ⟨b', off', e, hb, hc⟩
    · omega
    · injection e with e
      injection e with e1 e2
      rw [e1, e2]; exact hc i hi
  have hbw : 0 < n → b < w.heap.size := fun h0 => by
    rcases h.cells with h1 | ⟨b', off', e, hb, hc⟩
    · omega
    · injection e with e
      injection e with e1 e2
      rw [e1]; exact hb
  have HBW := hide hbw
  clear h hs hr hd hcp hu hde hbw hx1 hx1'
  go_loopw [1, 6] (fun xv sv wr => ∃ (s' d' : Nat) (acc : ByteArray), s' ≤ 32 ∧ xv = .int .i64 d' ∧ sv = .string acc ∧ acc.size + s' * 40000 ≤ 1280000 ∧ Hid (Up ns s' d') ∧ Hid (goS acc (namesUp ns s' d') = R) ∧ wr = w1) (fun xv _ _ => depN ns 32 (intOf xv).toNat)
  case atStart => exact ⟨d, x, ⟨#[]⟩, hs32, rfl, rfl, by show 0 + d * 40000 ≤ 1280000; omega, HU, (unhide hRe).symm, rfl⟩
  case round =>
    obtain ⟨s', d', acc, hs', rfl, rfl, hal, hUp, hcat, rfl⟩ := hrel
    by_cases hd1 : d' = 1
    · subst hd1
      have hs0 := (unhide hUp).zero
      subst hs0
      have HF : Hid (acc = goS ⟨#[]⟩ (namesUp ns (depN ns 32 x) x)) := by rw [← unhide HR0, ← unhide hcat]; rfl
      clear hcat hUp
      go_wp2
      go_ret2
      exact ⟨by rw [← unhide HF]; rfl, unhide hB⟩
    · obtain ⟨s2, p, rfl, hd2, hdn, hpar, hup2⟩ := (unhide hUp).cases1 hd1
      have hdn' : d' < n := by rw [← unhide HL]; exact hdn
      have hpn : p < n := by rw [← unhide HL]; exact hup2.lt (by have := unhide HL; omega)
      have hdi : (d' : Int) < (n : Int) := by omega
      have hpi : (p : Int) < (n : Int) := by omega
      have hd1' : ((d' : Int) != 1) = true := by simp; omega
      have hb := unhide HBW (by omega)
      obtain ⟨_, _, _, _, q1, -, -⟩ := (unhide HN d' hdn').below hb (unhide hB)
      obtain ⟨_, _, la, lc, q2, -, heg⟩ := (unhide HN p hpn).below hb (unhide hB)
      have c9 := q1.c9
      rw [hpar] at c9
      have c8 := q2.c8
      have cb : wr.cell? ⟨w.heap.size, 0, none⟩ = some (.slice (some ⟨b, off, none⟩) n cap) := by rw [cell_of_row _ _ _ _ _ _ (unhide HX)]; rfl
      have hcat2 : Hid (goS (goS acc (hits (nd ns p).list d')) (namesUp ns s2 p) = R) := by
        rw [← unhide hcat]
        show _ = goS acc (hits (nd ns (nd ns d').parent.toNat).list d' ++ namesUp ns s2 (nd ns d').parent.toNat)
        rw [hpar, Int.toNat_natCast, goS_app]
      have hll : (nd ns p).list.length ≤ 512 := list_le (unhide HCP) (by rw [unhide HL]; exact hpn)
      have HNL : Hid (∀ k, k < (nd ns p).list.length → (en (nd ns p).list k).name.size ≤ 64) := fun k hk => name_le (unhide HCP) (by rw [unhide HL]; exact hpn) hk
      have HM : Hid (depN ns 32 p < depN ns 32 d') := by
        show depN ns 32 p < depN ns 32 d'
        rw [depN_up (unhide hUp) 32 hs', depN_up hup2 32 (by omega)]; omega
      have HUP2 := hide hup2
      obtain ⟨L, hL⟩ : ∃ L, L = (nd ns p).list := ⟨_, rfl⟩
      rw [← hL] at c8 hcat2 hll HNL heg
      obtain ⟨ll, hlle⟩ : ∃ ll, L.length = ll := ⟨_, rfl⟩
      rw [hlle] at c8 hll HNL heg
      have HLE := hide hlle
      have HE := hide heg
      have hal2 : acc.size + (s2 + 1) * 40000 ≤ 1280000 := hal
      clear q1 q2 hcat heg hL hlle hUp hup2 hpar hal
      go_wp2_with fail
      clear c9 c8 cb
      go_loopw [6, 9] (fun sv iv wq => ∃ (k : Nat) (y : ByteArray), k ≤ ll ∧ iv = .int .i64 k ∧ sv = .string y ∧ y.size ≤ acc.size + k * 65 ∧ Hid (y = goS acc (hits (L.take k) d')) ∧ wq = wr) (fun _ iv _ => ll - (intOf iv).toNat)
      case atStart => exact ⟨0, acc, Nat.zero_le _, rfl, rfl, by omega, rfl, rfl⟩
      case round =>
        obtain ⟨k, y, hk, rfl, rfl, hy, hye, rfl⟩ := hrel
        by_cases hlt : k < ll
        · have hlt' : (k : Int) < (ll : Int) := by omega
          rcases (unhide HE).cells with h0 | ⟨lb, lo, rfl, hlb, hcc⟩
          · omega
          have e0 := (hcc k hlt).c0
          have e1 := (hcc k hlt).c1
          have hnl := unhide HNL k hlt
          have HT : Hid (hits (L.take (k + 1)) d' = hits (L.take k) d' ++ (if (en L k).node = (d' : Int) then [(en L k).name] else [])) := hits_take L d' k (by rw [unhide HLE]; exact hlt)
          obtain ⟨nm, hnm⟩ : ∃ q, q = (en L k).name := ⟨_, rfl⟩
          obtain ⟨no, hno⟩ : ∃ q, q = (en L k).node := ⟨_, rfl⟩
          rw [← hnm] at e0 hnl HT
          rw [← hno] at e1 HT
          clear hcc hnm hno
          by_cases hh : no = (d' : Int)
          · subst hh
            rw [if_pos rfl] at HT
            have hy2 : Hid ((⟨#[47]⟩ ++ nm ++ y : ByteArray) = goS acc (hits (L.take (k + 1)) d')) := by
              show _ = _
              rw [unhide HT, goS_app, ← unhide hye]; rfl
            have hz : Hid ((⟨#[47]⟩ ++ nm ++ y : ByteArray).size = 1 + nm.size + y.size) := by show _ = _; rw [ByteArray.size_append, ByteArray.size_append]; rfl
            have hz1 : (⟨#[47]⟩ ++ nm : ByteArray).size = 1 + nm.size := by rw [ByteArray.size_append]; rfl
            have hq1 : ¬ 9223372036854775807 < 1 + nm.size := by omega
            have hq2 : ¬ 9223372036854775807 < 1 + nm.size + y.size := by omega
            clear hye HT
            go_wp2
            go_roundw
            case rel => exact ⟨k + 1, _, by omega, by go_num, rfl, by rw [unhide hz]; omega, hy2, trivial⟩
            case measure => simp [intOf]; omega
          · have hh' : (no == (d' : Int)) = false := by simpa using hh
            rw [if_neg hh, List.append_nil] at HT
            have hye2 : Hid (y = goS acc (hits (L.take (k + 1)) d')) := by rw [unhide HT]; exact unhide hye
            clear hye HT hh
            go_wp2
            go_roundw
            case rel => exact ⟨k + 1, y, by omega, by go_num, rfl, by omega, hye2, trivial⟩
            case measure => simp [intOf]; omega
        · have hlt' : ¬ (k : Int) < (ll : Int) := by omega
          have hye2 : Hid (y = goS acc (hits L d')) := by
            show _ = _
            rw [unhide hye, List.take_of_length_le (by rw [unhide HLE]; omega)]
          clear hye
          go_wp2
          go_roundw
          case rel => exact ⟨s2, p, y, by omega, rfl, rfl, by omega, HUP2, by rw [unhide hye2]; exact unhide hcat2, trivial⟩
          case measure => simpa [intOf] using unhide HM
theorem path_is {now : Int} {ns : List Nd} {x : Nat} (hd : isDirP now ns (x : Int) = true) (hx : ¬ x = 1) : goS ⟨#[]⟩ (namesUp ns (depN ns 32 x) x) = ⟨#[47]⟩ ++ joined ns x := by
  have hcp : checkP now ns = true := by
    have h1 := hd
    unfold isDirP nodeP at h1
    simp only [Bool.and_eq_true] at h1
    exact h1.1.1.1.1
  obtain ⟨hu, -⟩ := dir_up hd
  have hlen := (names_lead hcp hu).1
  have h0 : 0 < depN ns 32 x := by
    obtain ⟨s2, p, e, -⟩ := hu.cases1 hx
    omega
  apply ba_ext
  rw [goS_list]
  unfold joined namesTo
  generalize namesUp ns (depN ns 32 x) x = l at *
  have hl : 0 < l.reverse.length := by rw [List.length_reverse]; omega
  match hr : l.reverse, hl with
  | y :: ys, _ =>
    rw [← join_flat ys y]
    show _ = (⟨#[47]⟩ ++ ⟨_⟩ : ByteArray).data.toList
    simp [bs]
theorem path_root (ns : List Nd) : (⟨#[47]⟩ ++ joined ns 1 : ByteArray) = ⟨#[47]⟩ := by
  have e : joined ns 1 = ⟨#[]⟩ := by
    unfold joined namesTo
    rw [depN_up (Up.root (ns := ns)) 32 (by omega)]
    rfl
  rw [e]; rfl
set_option maxRecDepth 100000 in
set_option maxHeartbeats 1000000 in
theorem rpath_any (a : Option Addr) (n cap : Nat) (ns : List Nd) (now i : Int) (w : World) (h : Ng w a n cap ns) (hs : Sm ns) (hr : ∀ i, i < n → Rb (nd ns i)) :
    Calls Try.prog 15 #[.agg #[.slice a n cap, .int .i64 now], .int .i64 i] w fun e w' => e = .returned (pathV now ns i) ∧ Below w.heap.size w w' := by
  have HC : Hid (∀ W, Below w.heap.size w W → Calls Try.prog 45 #[.agg #[.slice a n cap, .int .i64 now], .int .i64 i] W fun e w' => e = .returned (.bool (isDirP now ns i)) ∧ Below W.heap.size W w') := fun W hW => rdir_any a n cap ns now i W (h.below hW) hs hr
  have HB1 : Hid (Below w.heap.size w (w.alloc (.cells #[.slice a n cap, .int .i64 now] 24))) := (Below.refl _ _).alloc (Nat.le_refl _) _
  cases hq : isDirP now ns i with
  | false =>
    have hv : pathV now ns i = .tuple #[.string ⟨#[]⟩, .int .i64 1] := by unfold pathV; rw [hq]; rfl
    rw [hv]
    rw [hq] at HC
    clear hv hq h hr
    go_enter Try.func15, Try.ntmps15
    go_wp2_with fail
    refine (unhide HC _ (unhide HB1)).mono ?_
    rintro e w1 ⟨rfl, b1⟩
    have hB := hide (box_keep b1).2.1
    clear b1 HC
    go_wp2
    go_ret2
    exact ⟨rfl, unhide hB⟩
  | true =>
    obtain ⟨x, hx, hxn⟩ : ∃ x : Nat, i = (x : Int) ∧ x < n := by
      have h1 := hq
      unfold isDirP nodeP at h1
      simp only [Bool.and_eq_true, decide_eq_true_eq] at h1
      rw [h.len] at h1
      exact ⟨i.toNat, by omega, by omega⟩
    subst hx
    have hv : pathV now ns (x : Int) = .tuple #[.string (⟨#[47]⟩ ++ joined ns x), .int .i64 0] := by unfold pathV; rw [hq, Int.toNat_natCast]; rfl
    rw [hv]
    by_cases hx1 : x = 1
    · subst hx1
      rw [path_root]
      rw [hq] at HC
      clear hv hq h hr
      have HC' : Hid (∀ W, Below w.heap.size w W → Calls Try.prog 45 #[.agg #[.slice a n cap, .int .i64 now], .int .i64 1] W fun e w' => e = .returned (.bool true) ∧ Below W.heap.size W w') := HC
      clear HC
      show Calls Try.prog 15 #[.agg #[.slice a n cap, .int .i64 now], .int .i64 1] w _
      go_enter Try.func15, Try.ntmps15
      go_wp2_with fail
      refine (unhide HC' _ (unhide HB1)).mono ?_
      rintro e w1 ⟨rfl, b1⟩
      have hB := hide (box_keep b1).2.1
      clear b1 HC'
      go_wp2
      go_ret2
      exact ⟨rfl, unhide hB⟩
    · rw [← path_is hq hx1]
      rcases h.cells with h0 | ⟨b, off, rfl, -, -⟩
      · omega
      exact rpath_up b off n cap ns now x w h hs hr hq hx1
end Go.Proofs.Ytighgaocnpofpaa.Tr
