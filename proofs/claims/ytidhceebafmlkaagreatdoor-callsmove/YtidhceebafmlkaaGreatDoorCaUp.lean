import Derived.Test.YtidhceebafmlkaaGreatDoorCaLink
import Derived.Test.YtidhceebafmlkaaGreatDoorCaAct3
namespace Go.Proofs.YtidhceebafmlkaaGreatDoor.Ca
open Go.RowKit Cu Tr Pm Pt
theorem en_get {es : List En} {i : Nat} (hi : i < es.length) : en es i = es[i] := by simp [en, List.getD, hi]
theorem rises_iff (es : List En) : Rises es ↔ es.Pairwise (fun a b => bs a.name < bs b.name) := by
  rw [List.pairwise_iff_getElem]
  constructor
  · intro h i j hi hj hij
    have := h i j hij hj
    rwa [en_get hi, en_get hj] at this
  · intro h i j hij hj
    rw [en_get (show i < es.length by omega), en_get hj]
    exact h i j (by omega) hj hij
theorem del_sub (es : List En) (k : Nat) : (delE es k).Sublist es := by
  have h1 : (es.drop (k + 1)).Sublist (es.drop k) := by
    have := List.drop_sublist 1 (es.drop k)
    rwa [List.drop_drop] at this
  have h2 := (List.Sublist.refl (es.take k)).append h1
  rwa [List.take_append_drop] at h2
def Fine1 (y : Nd) : Prop := Rises y.list ∧ y.list.length ≤ 100000
def Fine (ns : List Nd) : Prop := ∀ x, Fine1 (nd ns x)
theorem fine_nil {y : Nd} (h : y.list = []) : Fine1 y := by
  unfold Fine1; rw [h]; exact ⟨fun i j _ hj => absurd hj (by simp), by simp⟩
theorem fine_of {now : Int} {ns : List Nd} (h : checkP now ns = true) : Fine ns := fun x => by
  by_cases hx : x < ns.length
  · rcases kind_list ((checkP_parts h).2.2.2.2.2.1 x hx) with ⟨_, hl⟩ | ⟨_, hl⟩
    · exact ⟨rises_of hl, by have := lists_small h x; omega⟩
    · exact fine_nil hl
  · rw [nd_out (by omega)]; exact fine_nil rfl
theorem fine_del {y : Nd} (h : Fine1 y) (k : Nat) : Fine1 { y with list := delE y.list k } := by
  have s := del_sub y.list k
  exact ⟨(rises_iff _).2 (((rises_iff _).1 h.1).sublist s), Nat.le_trans s.length_le h.2⟩
theorem Fine.upd {ns : List Nd} (h : Fine ns) (i : Nat) (f : Nd → Nd) (hf : ∀ y, Fine1 y → Fine1 (f y)) : Fine (upd ns i f) := fun x => by
  rw [nd_upd]
  split
  · exact hf _ (h i)
  · exact h x
theorem unlist_fine {now : Int} {ns : List Nd} (h : Fine ns) (d m : Nat) (s : ByteArray) : Fine (unlistD now ns d s m) := by
  unfold unlistD
  simp only
  have h1 := (h.upd d (fun x => { x with list := if hasE x.list s then delE x.list (posE x.list s) else x.list }) (fun y hy => by
    by_cases q : hasE y.list s = true
    · simp only [q, if_true]; exact fine_del hy _
    · simp only [q]; exact hy)).upd d (fun x => { x with time := now }) (fun y hy => hy)
  split
  · exact h1.upd d (fun x => { x with links := x.links - 1 }) (fun y hy => hy)
  · exact h1
theorem upd_kind (ns : List Nd) (i x : Nat) (f : Nd → Nd) (hf : ∀ y, (f y).kind = y.kind) : (nd (upd ns i f) x).kind = (nd ns x).kind := by
  rw [nd_upd]
  split
  · rename_i h; rw [hf, h.1]
  · rfl
theorem unlist_kind {now : Int} (ns : List Nd) (d m : Nat) (s : ByteArray) (x : Nat) : (nd (unlistD now ns d s m) x).kind = (nd ns x).kind := by
  unfold unlistD
  simp only
  split
  · refine (upd_kind _ _ _ _ (fun _ => by rfl)).trans ((upd_kind _ _ _ _ (fun _ => by rfl)).trans (upd_kind _ _ _ _ (fun _ => by rfl)))
  · refine (upd_kind _ _ _ _ (fun _ => by rfl)).trans (upd_kind _ _ _ _ (fun _ => by rfl))
theorem nd_setz (ns : List Nd) (m x : Nat) : nd (ns.set m nz) x = if m = x then nz else nd ns x := by
  by_cases e : m = x
  · subst e
    rw [if_pos rfl]
    by_cases hk : m < ns.length
    · simp [nd, List.getD, hk]
    · rw [nd_out (by rw [List.length_set]; omega)]
  · rw [if_neg e]
    simp [nd, List.getD, List.getElem?_set_ne e]
theorem nd_take (ns : List Nd) (k x : Nat) : nd (ns.take k) x = if x < k then nd ns x else nz := by
  by_cases h : x < k
  · rw [if_pos h]; simp [nd, List.getD, h]
  · rw [if_neg h, nd_out (by rw [List.length_take]; omega)]
theorem last_ge (ns : List Nd) : ∀ k x, x ≤ k → (nd ns x).kind ≠ 0 → x ≤ lastAt ns k
  | 0, x, h, _ => by omega
  | k + 1, x, h, h0 => by
    rw [lastAt]
    split
    · rename_i q
      by_cases e : x = k + 1
      · subst e; exact absurd q.2 h0
      · exact last_ge ns k x (by omega) h0
    · exact h
theorem lose_fine {ns : List Nd} (h : Fine ns) (m : Nat) : Fine (loseD ns m) := by
  unfold loseD
  simp only
  have h1 := h.upd m (fun x => { x with links := x.links - 1 }) (fun y hy => hy)
  split
  · exact h1
  · intro x
    rw [nd_take]
    split
    · rw [nd_setz]
      split
      · exact fine_nil rfl
      · exact h1 x
    · exact fine_nil rfl
theorem lose_lb {ns : List Nd} {K : Int} (h : Lb ns K) (hK : 0 ≤ K) (m : Nat) : Lb (loseD ns m) (K + 1) := by
  unfold loseD
  simp only
  have h1 := h.upd m (fun x => { x with links := x.links - 1 }) (fun x => by simp; omega)
  split
  · exact h1
  · intro x
    rw [nd_take]
    split
    · rw [nd_setz]
      split
      · simp; omega
      · exact h1 x
    · simp; omega
theorem lose_in {ns : List Nd} {m x : Nat} (hx : x < ns.length) (hne : x ≠ m) (h0 : (nd ns x).kind ≠ 0) : x < (loseD ns m).length ∧ (nd (loseD ns m) x).kind = (nd ns x).kind := by
  unfold loseD
  simp only
  have hk : (nd (upd ns m fun x => { x with links := x.links - 1 }) x).kind = (nd ns x).kind := upd_kind _ _ _ _ (fun _ => rfl)
  split
  · exact ⟨by rw [upd_len]; exact hx, hk⟩
  · have hz : (nd ((upd ns m fun x => { x with links := x.links - 1 }).set m nz) x).kind = (nd ns x).kind := by rw [nd_setz, if_neg (fun e => hne e.symm)]; exact hk
    have hl := last_ge ((upd ns m fun x => { x with links := x.links - 1 }).set m nz) (((upd ns m fun x => { x with links := x.links - 1 }).set m nz).length - 1) x (by rw [List.length_set, upd_len]; omega) (by rw [hz]; exact h0)
    refine ⟨?_, ?_⟩
    · rw [List.length_take, List.length_set, upd_len]
      rw [List.length_set, upd_len] at hl
      omega
    · rw [nd_take, if_pos (by omega), hz]
theorem or_cons {x : Int} {l : List Int} (h : orP (x :: l) = 0) : x = 0 ∧ orP l = 0 := by
  unfold orP at h
  split at h
  · rename_i e; exact ⟨e, h⟩
  · rename_i e; exact absurd h e
theorem wh_off {b : Bool} {k : Int} (hk : k ≠ 0) (h : wh b k = 0) : b = false := by
  cases b with
  | false => rfl
  | true => exact absurd h hk
theorem named_list {ns : List Nd} {p : Pl} (h : Okp ns p) (hn : nameless p = false) (h0 : p.node ≠ 0) {d : Nat} (hd : p.dir = (d : Int)) : (nd ns d).list ≠ [] := fun e => by
  rcases h.what with ⟨h1, _⟩ | ⟨_, h2⟩
  · unfold nameless at hn
    rw [h1] at hn
    exact absurd hn (by decide)
  · rw [hd, Int.toNat_natCast, e] at h2
    exact h0 h2
theorem ren_apart {a : Ac} (hp : Okp a.ns a.p) (hq : Okp a.ns a.q) (n1 : nameless a.p = false) (n2 : nameless a.q = false) (hp0 : a.p.node ≠ 0) (hq0 : a.q.node ≠ 0) (hm : a.mayTakePlace = 0)
    {pd qd qm : Nat} (hpd : a.p.dir = (pd : Int)) (hqd : a.q.dir = (qd : Int)) (hqm : a.q.node = (qm : Int)) (hpr : Dr a.ns pd) (hqr : Dr a.ns qd) : pd ≠ qm ∧ qd ≠ qm := by
  have key : ∀ d, Dr a.ns d → (nd a.ns d).list ≠ [] → d ≠ qm := by
    intro d hd hl e
    subst e
    have hD : isD a.there = true := by unfold isD Ac.there; rw [hqm, Int.toNat_natCast]; exact decide_eq_true hd.2.2
    unfold Ac.mayTakePlace at hm
    split at hm
    · have h3 := (or_cons (or_cons (or_cons hm).2).2).1
      have hb := wh_off (by decide) h3
      rw [hD, Bool.true_and] at hb
      unfold Ac.isBusy at hb
      rw [hqm, Int.toNat_natCast, Bool.or_eq_false_iff] at hb
      have := of_decide_eq_false hb.1
      exact hl (List.eq_nil_of_length_eq_zero (by omega))
    · have h1 := wh_off (by decide) (or_cons hm).1
      rw [hD] at h1
      exact absurd h1 (by decide)
  exact ⟨key pd hpr (named_list hp n1 hp0 hpd), key qd hqr (named_list hq n2 hq0 hqd)⟩
end Go.Proofs.YtidhceebafmlkaaGreatDoor.Ca

namespace Go.Proofs.YtidhceebafmlkaaGreatDoor.Ca
open Go.RowKit Cu Tr Pm Pt
set_option maxRecDepth 100000 in
set_option maxHeartbeats 400000 in
theorem isDir_val9 (n : Nd) (d l : Value) (w : World) : Calls Tryz.prog 197 #[.agg (na n d l)] w fun e w' => e = .returned (.bool (isD n)) ∧ Below w.heap.size w w' := by
  have hq : isD n = ((n.kind.toNat : Int) == 2) := (kd_eq n.kind 2).symm
  rw [hq]
  obtain ⟨kd, md, us, gr, lk, ti, dt, tg, ls, pa⟩ := n
  have hb0 : Hid (Below w.heap.size w (w.alloc (.cells (na ⟨kd, md, us, gr, lk, ti, dt, tg, ls, pa⟩ d l) 82))) := (Below.refl _ _).alloc (Nat.le_refl _) _
  unfold na at *
  simp only at *
  go_enter Tryz.func197, Tryz.ntmps197
  go_wp2
  go_ret
  exact ⟨rfl, uh hb0⟩
theorem up_stop {ns : List Nd} {t f x : Nat} (h : ¬ (x ≠ t ∧ 1 < x)) : stepsUp ns t (f + 1) x = (0, decide (x = t)) := by
  rw [stepsUp, if_neg h]
theorem up_more {ns : List Nd} {t f x p : Nat} (h1 : x ≠ t) (h2 : 1 < x) (hp : (nd ns x).parent = (p : Int)) : stepsUp ns t (f + 1) x = ((stepsUp ns t f p).1 + 1, (stepsUp ns t f p).2) := by
  rw [stepsUp, if_pos ⟨h1, h2⟩, hp]; rfl
theorem up_le (ns : List Nd) (t : Nat) : ∀ f x, (stepsUp ns t f x).1 ≤ f
  | 0, x => Nat.le_refl _
  | f + 1, x => by
    rw [stepsUp]
    split
    · exact Nat.succ_le_succ (up_le ns t f _)
    · exact Nat.zero_le _
set_option maxRecDepth 100000 in
set_option maxHeartbeats 400000 in
theorem stepsUp_any (A : Nat) (x : Option Addr) (n cap : Nat) (dx : Option Addr) (dc : Nat) (a : Ac) (d t s : Nat) (w : World) (h : At w A x n cap dx dc a) (hup : Up a.ns s d) (hs : s ≤ 32) :
    Calls Tryz.prog 250 #[.pointer (some ⟨A, 0, none⟩), .int .i64 d, .int .i64 t] w fun e w' => e = .returned (.tuple #[.int .i64 ((stepsUp a.ns t 33 d).1 : Nat), .bool (stepsUp a.ns t 33 d).2]) ∧ w' = w := by
  have hl := h.len
  obtain ⟨c0, -⟩ := h.cells
  have HP0 : Hid (∃ b off, x = some ⟨b, off, none⟩ ∧ ∀ y, y < n → w.cell? ⟨b, off + y * 10 + 9, none⟩ = some (.int .i64 (nd a.ns y).parent)) := by
    obtain ⟨b, off, da, ec, la, lc, h1, -⟩ := h.node 0 (by omega)
    refine ⟨b, off, h1, fun y hy => ?_⟩
    obtain ⟨b', off', da, ec, la, lc, h1', -, h3, -, -⟩ := h.node y (by omega)
    rw [h1] at h1'
    injection h1' with h1'; injection h1' with h1' h2'
    subst h1' h2'
    exact h3.c9
  obtain ⟨b, off, hx, HP⟩ := uh HP0
  clear HP0
  subst hx
  have HP := hide HP
  obtain ⟨K, B, hKB⟩ : ∃ K B, stepsUp a.ns t 33 d = (K, B) := ⟨_, _, rfl⟩
  rw [hKB]
  simp only
  obtain ⟨hl1, -, h513⟩ := hl
  have HL := hide hl1
  have H0 : Hid (s < 33 ∧ Up a.ns s d ∧ K = 0 + (stepsUp a.ns t 33 d).1 ∧ B = (stepsUp a.ns t 33 d).2) := ⟨by omega, hup, by rw [hKB, Nat.zero_add], by rw [hKB]⟩
  clear h hup hs hKB hl1
  go_enter Tryz.func250, Tryz.ntmps250
  go_wp2_with fail
  go_loopw [1, 8] (fun v1 v8 wr => w = wr ∧ ∃ y k s' f : Nat, v1 = .int .i64 y ∧ v8 = .int .i64 k ∧ k + f = 33 ∧ Hid (s' < f ∧ Up a.ns s' y ∧ K = k + (stepsUp a.ns t f y).1 ∧ B = (stepsUp a.ns t f y).2)) (fun _ v8 _ => 40 - (intOf v8).toNat)
  case atStart => exact ⟨rfl, d, 0, s, 33, rfl, rfl, rfl, H0⟩
  case round =>
    obtain ⟨rfl, y, k, s', f, rfl, rfl, hkf, HI⟩ := hrel
    obtain ⟨f', rfl⟩ : ∃ f', f = f' + 1 := ⟨f - 1, by have := (uh HI).1; omega⟩
    by_cases hyt : y = t
    · subst hyt
      have hq := uh HI
      rw [up_stop (fun q => q.1 rfl)] at hq
      obtain ⟨-, -, hK, hB⟩ := hq
      have hB2 : B = true := by rw [hB]; exact decide_eq_true rfl
      have hK2 : K = k := by rw [hK]; simp
      subst hB2 hK2
      clear hK hB H0 HI
      go_wp2
      go_ret2
      exact ⟨rfl, rfl⟩
    · have hyt' : ¬ (y : Int) = (t : Int) := by omega
      have hyt2 : ((y : Int) != (t : Int)) = true := by simpa using hyt'
      by_cases hy1 : 1 < y
      · obtain ⟨s2, p, hs2, -, hyl, hpp, hu2⟩ := (uh HI).2.1.cases1 (by omega)
        have hc := uh HP y (by rw [← uh HL]; exact hyl)
        rw [hpp] at hc
        have hq := uh HI
        rw [up_more hyt hy1 hpp] at hq
        have HI2 : Hid (s2 < f' ∧ Up a.ns s2 p ∧ K = (k + 1) + (stepsUp a.ns t f' p).1 ∧ B = (stepsUp a.ns t f' p).2) := ⟨by omega, hu2, by have := hq.2.2.1; simp only at this; omega, hq.2.2.2⟩
        have hyn : (y : Int) < (n : Int) := by have := uh HL; omega
        have hy1' : (1 : Int) < (y : Int) := by omega
        clear hq hs2 hu2 hpp hyl HI H0
        go_wp2_with fail
        go_roundw
        case rel => exact ⟨by simp, p, k + 1, s2, f', by simp, by go_num, by omega, HI2⟩
        case measure => simp [intOf]; omega
      · have hq := uh HI
        rw [up_stop (fun q => hy1 q.2)] at hq
        obtain ⟨-, -, hK, hB⟩ := hq
        have hB2 : B = ((y : Int) == (t : Int)) := by rw [hB, decide_eq_false hyt]; exact (by simpa using hyt' : ((y : Int) == (t : Int)) = false).symm
        have hK2 : K = k := by rw [hK]; simp
        subst hB2 hK2
        have hy1' : ¬ (1 : Int) < (y : Int) := by omega
        clear hK hB H0 HI
        go_wp2
        go_ret2
        exact ⟨rfl, rfl⟩
set_option maxRecDepth 100000 in
set_option maxHeartbeats 1000000 in
theorem height_any (A : Nat) (x : Option Addr) (n cap : Nat) (dx : Option Addr) (dc : Nat) (a : Ac) (d : Nat) (w : World) (h : At w A x n cap dx dc a) :
    Calls Tryz.prog 251 #[.pointer (some ⟨A, 0, none⟩), .int .i64 d] w fun e w' => e = .returned (.int .i64 (a.height d : Nat)) ∧ Below w.heap.size w w' := by
  have hln := h.len
  obtain ⟨b, off, da, ec, la, lc, hx, -⟩ := h.node 0 (by omega)
  subst hx
  have HX : Hid (∀ (k : Nat) (W : World), k < n → At W A (some ⟨b, off, none⟩) n cap dx dc a → ∃ da dc la lc, N10 W b (off + k * 10) (nd a.ns k) (.slice da (nd a.ns k).data.length dc) (.slice la (nd a.ns k).list.length lc)) := fun k W hk hW => by
    obtain ⟨b', off', da, ec, la, lc, h1, -, h3, -, -⟩ := hW.node k (by omega)
    injection h1 with h1; injection h1 with h1 h2
    subst h1 h2
    exact ⟨da, ec, la, lc, h3⟩
  have HU : Hid (∀ (k : Nat) W, k < n → isD (nd a.ns k) = true → At W A (some ⟨b, off, none⟩) n cap dx dc a → Calls Tryz.prog 250 #[.pointer (some ⟨A, 0, none⟩), .int .i64 k, .int .i64 d] W fun e w' => e = .returned (.tuple #[.int .i64 ((stepsUp a.ns d 33 k).1 : Nat), .bool (stepsUp a.ns d 33 k).2]) ∧ w' = W) := fun k W hk hD hW => by
    obtain ⟨-, s, hs, hup⟩ := (hung_check h.chk).good k (by omega) (of_decide_eq_true hD)
    exact stepsUp_any A _ n cap dx dc a k d s W hW hup hs
  obtain ⟨H, hH⟩ : ∃ H : Nat → Nat, ∀ k, H k = (List.range k).foldl (fun h i => if isD (nd a.ns i) && (stepsUp a.ns d 33 i).2 then max h (stepsUp a.ns d 33 i).1 else h) 0 := ⟨_, fun _ => rfl⟩
  have HF : Hid (∀ k, H (k + 1) = if isD (nd a.ns k) && (stepsUp a.ns d 33 k).2 then max (H k) (stepsUp a.ns d 33 k).1 else H k) := fun k => by
    rw [hH, hH, List.range_succ, List.foldl_append]; rfl
  have HZ : H 0 = 0 := by rw [hH]; rfl
  have HV : Hid (a.height d = H n) := by show _ = _; rw [hH, ← hln.1]; rfl
  rw [uh HV]
  have HW := hide h
  obtain ⟨c0, -⟩ := h.cells
  obtain ⟨-, h2, h513⟩ := hln
  clear h hH HV
  go_enter Tryz.func251, Tryz.ntmps251
  go_wp2_with fail
  clear c0
  go_loopw [5, 7, 16] (fun v5 _ v16 wr => ∃ k : Nat, k ≤ n ∧ v16 = .int .i64 k ∧ v5 = .int .i64 (H k : Nat) ∧ Hid (At wr A (some ⟨b, off, none⟩) n cap dx dc a) ∧ Hid (Below w.heap.size w wr)) (fun _ _ v16 _ => n - (intOf v16).toNat)
  case atStart => exact ⟨0, Nat.zero_le _, rfl, by rw [HZ]; rfl, HW, Below.refl _ _⟩
  case round =>
    obtain ⟨k, hk, rfl, rfl, hA, hB⟩ := hrel
    by_cases hlt : k < n
    · have hlt' : (k : Int) < (n : Int) := by omega
      obtain ⟨da', ec', la', lc', h10⟩ := uh HX k wr hlt (uh hA)
      obtain ⟨n0, n1, n2, n3, n4, n5, n6, n7, n8, n9⟩ := h10
      have hs := hide (uh HF k)
      have HUk := hide (fun W => uh HU k W hlt)
      have HID : Hid (∀ W, Calls Tryz.prog 197 #[.agg (na (nd a.ns k) (.slice da' (nd a.ns k).data.length ec') (.slice la' (nd a.ns k).list.length lc'))] W fun e w' => e = .returned (.bool (isD (nd a.ns k))) ∧ Below W.heap.size W w') := fun W => isDir_val9 _ _ _ W
      obtain ⟨S0, S1, hS⟩ : ∃ S0 S1, stepsUp a.ns d 33 k = (S0, S1) := ⟨_, _, rfl⟩
      have hS0 : S0 ≤ 33 := by have := up_le a.ns d 33 k; rw [hS] at this; exact this
      rw [hS] at HUk hs
      obtain ⟨H0, hH0⟩ : ∃ q, q = H k := ⟨_, rfl⟩
      obtain ⟨H1, hH1⟩ : ∃ q, q = H (k + 1) := ⟨_, rfl⟩
      rw [← hH0, ← hH1] at hs
      rw [← hH0]
      have HH1 := hide hH1
      clear hH1 hH0 hS
      obtain ⟨D, hD⟩ : ∃ q, q = isD (nd a.ns k) := ⟨_, rfl⟩
      rw [← hD] at hs HID HUk
      generalize nd a.ns k = mk at *
      have hb2 := al_below wr (.cells (na mk (.slice da' mk.data.length ec') (.slice la' mk.list.length lc')) 82)
      have HA2 := hide ((uh hA).below hb2)
      have HB2 := hide ((uh hB).trans (hb2.mono (uh hB).size))
      clear hA hB hb2 hD
      simp only at hs HUk
      go_wp2_with fail
      refine (uh HID _).mono ?_
      rintro e w3 ⟨rfl, hb3⟩
      have HA3 := hide ((uh HA2).below hb3)
      have HB3 := hide ((uh HB2).trans (hb3.mono (uh HB2).size))
      clear hb3 HA2 HB2 HID n0 n1 n2 n3 n4 n5 n6 n7 n8 n9
      cases D with
      | false =>
        have hs2 := uh hs
        simp only [Bool.false_and, Bool.false_eq_true, if_false] at hs2
        clear hs HUk
        go_wp2_with fail
        go_roundw
        case rel => exact ⟨k + 1, by omega, by go_num, by rw [← uh HH1, hs2], HA3, HB3⟩
        case measure => simp [intOf]; omega
      | true =>
        have hs2 := uh hs
        simp only [Bool.true_and] at hs2
        clear hs
        go_wp2_with fail
        refine (uh HUk _ trivial (uh HA3)).mono ?_
        rintro e ww ⟨rfl, hww⟩
        subst hww
        clear HUk
        cases S1 with
        | false =>
          simp only [Bool.false_eq_true, if_false] at hs2
          go_wp2_with fail
          go_roundw
          case rel => exact ⟨k + 1, by omega, by go_num, by rw [← uh HH1, hs2], HA3, HB3⟩
          case measure => simp [intOf]; omega
        | true =>
          simp only [if_true] at hs2
          go_wp2_with fail
          go_roundw
          case rel => exact ⟨k + 1, by omega, by go_num, by rw [← uh HH1, hs2]; congr 1; omega, HA3, HB3⟩
          case measure => simp [intOf]; omega
    · obtain rfl : n = k := by omega
      have hlt' : ¬ (n : Int) < (n : Int) := by omega
      clear HX HU HF hA
      go_wp2
      go_ret
      exact ⟨rfl, uh hB⟩
end Go.Proofs.YtidhceebafmlkaaGreatDoor.Ca
