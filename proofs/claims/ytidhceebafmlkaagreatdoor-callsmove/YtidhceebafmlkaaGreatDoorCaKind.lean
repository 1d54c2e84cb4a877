import Derived.Test.YtidhceebafmlkaaGreatDoorCaList
import Derived.Test.YtidhceebafmlkaaGreatDoorCaNew
import Derived.Test.YtidhceebafmlkaaGreatDoorCaAdd
namespace Go.Proofs.YtidhceebafmlkaaGreatDoor.Ca
open Go.RowKit Cu Tr Pm Pt
set_option maxRecDepth 100000 in
set_option maxHeartbeats 4000000 in
theorem unlist_any (B D : Nat) (now : Int) (v : Value) (l : List Nv) (d m : Nat) (nm : ByteArray) (bd : Bool) (w : World) (h : Df w B D now v l) (hB : B ≤ w.heap.size) (hd : d < l.length) (hm : m < l.length) (hr : Rises (l.getD d zNv).1.list) (hll : (l.getD d zNv).1.list.length ≤ 100000) (hlk : -1000000000 ≤ (l.getD d zNv).1.links ∧ (l.getD d zNv).1.links ≤ 1000000000) :
    Calls Tryz.prog 205 #[.pointer (some ⟨D, 0, none⟩), .agg (pv ⟨(d : Int), nm, (m : Int), bd⟩)] w fun e w' => e = .returned (.tuple #[]) ∧ (∃ l', Df w' B D now v l' ∧ l'.map (·.1) = unlistD now (l.map (·.1)) d nm m) ∧ Below B w w' := by
  obtain ⟨md, dv, la, lc, hx, heg⟩ : ∃ md dv la lc, l.getD d zNv = (md, dv, .slice la md.list.length lc) ∧ Eg w la md.list.length lc md.list := by
    obtain ⟨la, lc, h1, h2⟩ := hide_of_eg (h.hd d hd)
    exact ⟨(l.getD d zNv).1, (l.getD d zNv).2.1, la, lc, by rw [← h1], h2⟩
  rw [hx] at hr hll hlk
  simp only at hr hll hlk
  obtain ⟨g, c, hvg⟩ := h.at (by omega)
  obtain ⟨n, hn⟩ : ∃ n, n = l.length := ⟨_, rfl⟩
  rw [← hn] at hvg
  subst hvg
  have hdn : (d : Int) < (n : Int) := by omega
  have hmn : (m : Int) < (n : Int) := by omega
  have HDL : Hid (d < l.length) := hd
  have HML : Hid (m < l.length) := hm
  have HX := hide hx
  have HB := hide hB
  have HRI := hide hr
  have HPL : Hid (∀ W, Dp w W B D now (sg g n c) l ⟨(d : Int), nm, (m : Int), bd⟩ → Calls Tryz.prog 248 #[.slice la md.list.length lc, .string nm] W fun e w' => e = .returned (.tuple #[.int .i64 (posE md.list nm), .bool (hasE md.list nm)]) ∧ Below W.heap.size W w') := fun W hW => by
    obtain ⟨la', lc', h1, h2⟩ := hide_of_eg (hW.df.hd d hd)
    rw [hx] at h1 h2
    simp only at h1 h2
    injection h1 with h1 _ h3
    subst h1 h3
    exact place_any la _ lc md.list nm W h2 hr (by omega)
  have HDE : Hid (∀ W, Dp w W B D now (sg g n c) l ⟨(d : Int), nm, (m : Int), bd⟩ → hasE md.list nm = true → Calls Tryz.prog 252 #[.slice la md.list.length lc, .int .i64 (posE md.list nm), .int .i64 ((posE md.list nm : Nat) + 1 : Int)] W fun e w' => ∃ a' n' c', e = .returned (.slice a' n' c') ∧ Dp w (w'.setCell ⟨g, d * 10 + 8, none⟩ (.slice a' n' c')) B D now (sg g n c) (l.set d ({ md with list := delE md.list (posE md.list nm) }, dv, .slice a' n' c')) ⟨(d : Int), nm, (m : Int), bd⟩ ∧ w'.cell? ⟨g, d * 10 + 8, none⟩ = some (.slice la md.list.length lc) ∧ w'.frozen? ⟨g, d * 10 + 8, none⟩ = false) := fun W hW hh => by
    have hdd := hW.df.hd d hd
    rw [hx] at hdd
    have hpos : posE md.list nm < md.list.length := by unfold hasE at hh; simp only [Bool.and_eq_true, decide_eq_true_eq] at hh; exact hh.1
    refine (delete_any B _ md.list (posE md.list nm) W hdd.2 hpos (by omega)).mono ?_
    rintro e w' ⟨v', rfl, hR, hG, hat⟩
    obtain ⟨a', c', rfl⟩ := own_sl hR
    exact ⟨a', _, c', rfl, hW.relist d hd hx hR hG (.inl hat) hB⟩
  have HD0 := hide (dp_first h ⟨(d : Int), nm, (m : Int), bd⟩)
  have HMAP : Hid (∀ (es : List En) (lv : Value), (l.set d ({ md with list := es }, dv, lv)).map (·.1) = upd (l.map (·.1)) d fun x => { x with list := es }) := fun es lv => by
    rw [set_fst, upd, ← getD_fst l d hd, hx]
  have HND : Hid (nd (l.map (·.1)) d = md) := by rw [← getD_fst l d hd, hx]; exact rfl
  have HSELF : Hid (l.set d ({ md with list := md.list }, dv, .slice la md.list.length lc) = l) := by
    have e : l[d]'hd = (md, dv, .slice la md.list.length lc) := by rw [← getD_nv hd, hx]
    show l.set d (md, dv, .slice la md.list.length lc) = l
    rw [← e]
    exact List.set_getElem_self hd
  obtain ⟨es, hes⟩ : ∃ es, Hid (es = if hasE md.list nm then delE md.list (posE md.list nm) else md.list) := ⟨_, rfl⟩
  obtain ⟨hb, hhb⟩ : ∃ hb, Hid (hb = hasE md.list nm) := ⟨_, rfl⟩
  have hpl : posE md.list nm ≤ 100000 := Nat.le_trans (by unfold posE; exact (List.takeWhile_prefix _).length_le) hll
  rw [← uh hhb] at HPL HDE hes
  obtain ⟨PP, hPP⟩ : ∃ PP, Hid (PP = posE md.list nm) := ⟨_, rfl⟩
  rw [← uh hPP] at HPL HDE hes hpl
  have HUE : Hid (∀ (ns : List Nd), nd ns d = md → unlistD now ns d nm m = if (nd (upd (upd ns d fun x => { x with list := es }) d fun x => { x with time := now }) m).kind = 2
    then upd (upd (upd ns d fun x => { x with list := es }) d fun x => { x with time := now }) d fun x => { x with links := x.links - 1 }
    else upd (upd ns d fun x => { x with list := es }) d fun x => { x with time := now }) := fun ns hq => unlistD_eq hq (by rw [uh hes, uh hhb, uh hPP])
  clear hhb hPP
  obtain ⟨cD0, cD1, cp0, cp1, cp2, cp3⟩ := (uh HD0).cells
  clear h hr hll hx heg hB hd hm hn
  unfold pv
  simp only
  go_enter Tryz.func205, Tryz.ntmps205
  go_wp2_with fail
  go_quiet (fail)
  clear cD0 cD1 cp0 cp1 cp2 cp3
  obtain ⟨W1, hW1⟩ : ∃ W1, W1 = (w.alloc (.cells #[.int .i64 d, .string nm, .int .i64 m, .bool bd] 99)).drewN nq := ⟨_, rfl⟩
  have HD1' : Dp w W1 B D now (sg g n c) l ⟨(d : Int), nm, (m : Int), bd⟩ := by rw [hW1]; exact (uh HD0).step (below_drew _ nq) (uh HB)
  have HD1 : Hid (Dp w W1.drew B D now (sg g n c) l ⟨(d : Int), nm, (m : Int), bd⟩) := HD1'.step (below_drew _ 1) (uh HB)
  have HW1 := hide hW1
  clear hW1 HD1' HD0
  go_wp2_with fail
  rw [← uh HW1]
  refine wp_region_held_drew (S := (fun w' => Dp w w' B D now (sg g n c) l ⟨(d : Int), nm, (m : Int), bd⟩)) (by kernel_rfl) (uh HD1) (fun hHeld => ?_)
  refine tk 0 rfl (v := ?v25) (.inl ⟨by rfl, ?hy25⟩) ?rest25
  case hy25 => intro w hSw; obtain ⟨sD0, sD1, sp0, sp1, sp2, sp3⟩ := Dp.cells hSw; obtain ⟨s0, s4, s5, s8, s9⟩ := Dp.at hSw d (uh HDL) (uh HX); go_simp; try with_reducible rfl
  try simp only [pS]
  refine tk 1 rfl (v := ?v26) (.inl ⟨by rfl, ?hy26⟩) ?rest26
  case hy26 => intro w hSw; obtain ⟨sD0, sD1, sp0, sp1, sp2, sp3⟩ := Dp.cells hSw; obtain ⟨s0, s4, s5, s8, s9⟩ := Dp.at hSw d (uh HDL) (uh HX); go_simp; try with_reducible rfl
  try simp only [pS]
  refine tk 2 rfl (v := ?v27) (.inl ⟨by rfl, ?hy27⟩) ?rest27
  case hy27 => intro w hSw; obtain ⟨sD0, sD1, sp0, sp1, sp2, sp3⟩ := Dp.cells hSw; obtain ⟨s0, s4, s5, s8, s9⟩ := Dp.at hSw d (uh HDL) (uh HX); go_simp; try with_reducible rfl
  try simp only [pS]
  refine tk 3 rfl (v := ?v28) (.inl ⟨by rfl, ?hy28⟩) ?rest28
  case hy28 => intro w hSw; obtain ⟨sD0, sD1, sp0, sp1, sp2, sp3⟩ := Dp.cells hSw; obtain ⟨s0, s4, s5, s8, s9⟩ := Dp.at hSw d (uh HDL) (uh HX); go_simp; try with_reducible rfl
  try simp only [pS]
  refine tk 4 rfl (v := ?v29) (.inl ⟨by rfl, ?hy29⟩) ?rest29
  case hy29 => intro w hSw; obtain ⟨sD0, sD1, sp0, sp1, sp2, sp3⟩ := Dp.cells hSw; obtain ⟨s0, s4, s5, s8, s9⟩ := Dp.at hSw d (uh HDL) (uh HX); go_simp; try with_reducible rfl
  try simp only [pS]
  refine tk 5 rfl (v := ?v30) (.inl ⟨by rfl, ?hy30⟩) ?rest30
  case hy30 => intro w hSw; obtain ⟨sD0, sD1, sp0, sp1, sp2, sp3⟩ := Dp.cells hSw; obtain ⟨s0, s4, s5, s8, s9⟩ := Dp.at hSw d (uh HDL) (uh HX); go_simp; try with_reducible rfl
  try simp only [pS]
  refine wpAnyH_ready (rs := [6]) (by kernel_rfl) (by simp) ?_
  refine rc rfl fun K hK => ?_
  go_simp
  refine (uh HPL _ (uh HD1)).mono ?_; rintro e w1 ⟨rfl, hb1⟩; have HD2 := hide ((uh HD1).step hb1 (uh HB)); clear hb1
  go_wp2_with fail
  refine hK.out _ _ (by first | exact (uh HD2) | assumption | (dsimp only; assumption)) (fun hHeld2 => ?_)
  clear hK K
  try simp only [pS]
  refine tk 7 rfl (v := ?v31) (.inl ⟨by rfl, ?hy31⟩) ?rest31
  case hy31 => intro w hSw; obtain ⟨sD0, sD1, sp0, sp1, sp2, sp3⟩ := Dp.cells hSw; obtain ⟨s0, s4, s5, s8, s9⟩ := Dp.at hSw d (uh HDL) (uh HX); go_simp; try with_reducible rfl
  try simp only [pS]
  refine tk 8 rfl (v := ?v32) (.inl ⟨by rfl, ?hy32⟩) ?rest32
  case hy32 => intro w hSw; obtain ⟨sD0, sD1, sp0, sp1, sp2, sp3⟩ := Dp.cells hSw; obtain ⟨s0, s4, s5, s8, s9⟩ := Dp.at hSw d (uh HDL) (uh HX); go_simp; try with_reducible rfl
  try simp only [pS]
  refine tk 9 rfl (v := ?v33) (.inl ⟨by rfl, ?hy33⟩) ?rest33
  case hy33 => intro w hSw; obtain ⟨sD0, sD1, sp0, sp1, sp2, sp3⟩ := Dp.cells hSw; obtain ⟨s0, s4, s5, s8, s9⟩ := Dp.at hSw d (uh HDL) (uh HX); go_simp; try with_reducible rfl
  try simp only [pS]
  refine tk 10 rfl (v := ?v34) (.inl ⟨by rfl, ?hy34⟩) ?rest34
  case hy34 => intro w hSw; obtain ⟨sD0, sD1, sp0, sp1, sp2, sp3⟩ := Dp.cells hSw; obtain ⟨s0, s4, s5, s8, s9⟩ := Dp.at hSw d (uh HDL) (uh HX); go_simp; try with_reducible rfl
  try simp only [pS]
  refine tk 11 rfl (v := ?v35) (.inl ⟨by rfl, ?hy35⟩) ?rest35
  case hy35 => intro w hSw; obtain ⟨sD0, sD1, sp0, sp1, sp2, sp3⟩ := Dp.cells hSw; obtain ⟨s0, s4, s5, s8, s9⟩ := Dp.at hSw d (uh HDL) (uh HX); go_simp; try with_reducible rfl
  try simp only [pS]
  refine wpAnyH_done (by kernel_rfl) ?_ _
  go_upto_if 25 with fail
  go_cut [] (fun wx => ∃ lv, Hid (Dp w wx B D now (sg g n c) (l.set d ({ md with list := es }, dv, lv)) ⟨(d : Int), nm, (m : Int), bd⟩))
  case first =>
    cases hb with
    | true =>
      rw [if_pos rfl] at hes
      obtain ⟨-, -, -, n8, -⟩ := (uh HD2).at d (uh HDL) (uh HX)
      have HI2 := hide (uh HDE _ (uh HD2) rfl)
      rw [← uh hes] at HI2
      clear HD1 HD2 HDE HPL HMAP HND hes HSELF HUE
      go_wp2_with fail
      refine (uh HI2).mono ?_
      rintro e w5 ⟨a', n', c', rfl, hq, hc5, hf5⟩
      have HQ := hide hq
      clear hq
      go_wp2_with fail
      go_meet
      exact ⟨_, HQ⟩
    | false =>
      rw [if_neg (by decide)] at hes
      have HQ : Hid (Dp w w1 B D now (sg g n c) (l.set d ({ md with list := es }, dv, .slice la md.list.length lc)) ⟨(d : Int), nm, (m : Int), bd⟩) := by
        rw [uh hes, uh HSELF]; exact uh HD2
      clear HD1 HD2 HDE HPL HMAP HND hes HSELF HUE
      go_wp2_with fail
      go_meet
      exact ⟨_, HQ⟩
  case rest =>
    obtain ⟨lv, HD3⟩ := hcut
    have hlk' := hlk
    obtain ⟨l1, hl1⟩ : ∃ l1, l1 = l.set d ({ md with list := es }, dv, lv) := ⟨_, rfl⟩
    rw [← hl1] at HD3
    have hlen1 : l1.length = l.length := by rw [hl1]; exact List.length_set
    have hm1 : l1.map (·.1) = upd (l.map (·.1)) d fun x => { x with list := es } := by rw [hl1]; exact uh HMAP _ _
    have hx1 : l1.getD d zNv = ({ md with list := es }, dv, lv) := by rw [hl1]; have := uh HDL; simp [List.getD, this]
    have hd1 : d < l1.length := by rw [hlen1]; exact uh HDL
    have HL2 : Hid (∀ k, k < l.length → k < (updL l1 d fun x => { x with time := now }).length) := fun k hk => by rw [updL_len, hlen1]; exact hk
    have HLK : Hid (((updL l1 d fun x => { x with time := now }).getD d zNv).1.links = md.links) := by show _ = _; rw [updL_links l1 d d (fun x => { x with time := now }) (fun _ => rfl), hx1]
    have HM2 : Hid ((updL l1 d fun x => { x with time := now }).map (·.1) = upd (upd (l.map (·.1)) d fun x => { x with list := es }) d fun x => { x with time := now }) := by show _ = _; rw [updL_fst _ _ hd1, hm1]
    obtain ⟨-, cD1, -, -, -, -⟩ := (uh HD3).cells
    obtain ⟨-, -, n5, -, -⟩ := (uh HD3).at d hd1 hx1
    have f5 := (uh HD3).fz (d * 10 + 5)
    have HD4' := fun W (hW : W = wc.setCell ⟨g, d * 10 + 5, none⟩ (.int .i64 now)) => show Dp w W B D now (sg g n c) (updL l1 d fun x => { x with time := now }) ⟨(d : Int), nm, (m : Int), bd⟩ by rw [hW]; exact (uh HD3).upd d 5 (.int .i64 now) (fun x => { x with time := now }) hd1 (by omega) (fun _ _ _ => .inl rfl) (fun _ => rfl) (fun _ => rfl)
    have HD4'' := hide HD4'
    clear HDE HPL HD1 HD2 HMAP hm1 hx1 hd1 hlen1 HD4' HD3 hes HSELF
    generalize updL l1 d (fun x => { x with time := now }) = l2 at *
    clear hl1 l1
    go_upto_region 6 with fail
    obtain ⟨W4, hW4⟩ : ∃ W, W = wc.setCell ⟨g, d * 10 + 5, none⟩ (.int .i64 now) := ⟨_, rfl⟩
    rw [← hW4]
    have HD4 := hide (uh HD4'' W4 hW4)
    clear HD4'' hW4 cD1 n5 f5
    obtain ⟨mm, mdv, mlv, hmx⟩ : ∃ mm mdv mlv, l2.getD m zNv = (mm, mdv, mlv) := ⟨_, _, _, rfl⟩
    have hm2 := uh HL2 m (uh HML)
    have hd2 := uh HL2 d (uh HDL)
    have HMM : Hid (nd (l2.map (·.1)) m = mm) := by rw [← getD_fst l2 m hm2, hmx]; exact rfl
    obtain ⟨k0, -, -, -, -⟩ := (uh HD4).at m hm2 hmx
    obtain ⟨cD0, -, -, -, cp2, -⟩ := (uh HD4).cells
    have HHD := hide hd2
    clear hmx hm2 hd2
    by_cases hk : mm.kind = 2
    · rw [hk] at k0
      have k0' : W4.cell? ⟨g, m * 10, none⟩ = some (.int .u8 2) := k0
      obtain ⟨md3, dv3, lv3, hx3⟩ : ∃ a b c, l2.getD d zNv = (a, b, c) := ⟨_, _, _, rfl⟩
      have hlk3 : md3.links = md.links := by have := uh HLK; rw [hx3] at this; exact this
      obtain ⟨-, k4, -, -, -⟩ := (uh HD4).at d (uh HHD) hx3
      rw [hlk3] at k4
      have f4 := (uh HD4).fz (d * 10 + 4)
      have HK4 : Hid (∀ q, (W4.drewN q).cell? ⟨g, d * 10 + 4, none⟩ = some (.int .i64 md.links) ∧ (W4.drewN q).frozen? ⟨g, d * 10 + 4, none⟩ = false) := fun q => ⟨k4, f4⟩
      have HD6 := hide (fun q => ((uh HD4).step (below_drew W4 q) (uh HB)).upd d 4 (.int .i64 (md.links - 1)) (fun x => { x with links := x.links - 1 }) (uh HHD) (by omega) (fun m' dv' lv' => by
        by_cases e : l2.getD d zNv = (m', dv', lv')
        · refine .inl ?_
          rw [hx3] at e
          injection e with e _
          rw [← e, ← hlk3]; rfl
        · exact .inr e) (fun _ => rfl) (fun _ => rfl))
      have HM6 : Hid ((updL l2 d fun x => { x with links := x.links - 1 }).map (·.1) = unlistD now (l.map (·.1)) d nm m) := by
        show _ = _
        rw [updL_fst _ _ (uh HHD), uh HM2, uh HUE _ (uh HND), ← uh HM2, uh HMM, if_pos hk]
      obtain ⟨lo, hi⟩ := hlk'
      obtain ⟨L, hL⟩ : ∃ L, L = md.links := ⟨_, rfl⟩
      rw [← hL] at k4 lo hi HD6 HK4
      clear hlk3 hx3 hL hk k0
      go_wp2_with fail
      go_quiet (fail)
      obtain ⟨k4', f4'⟩ := uh HK4 nq
      clear k4 f4
      go_wp2_with fail
      go_end0
      exact ⟨rfl, ⟨_, (uh HD6 nq).df, uh HM6⟩, (uh HD6 nq).below⟩
    · have hk2 : ¬ ((mm.kind.toNat : Int) = 2) := fun e => hk (UInt8.toNat_inj.1 (by show mm.kind.toNat = 2; omega))
      have hk3 : ((mm.kind.toNat : Int) == 2) = false := by simpa using hk2
      have HM6 : Hid (l2.map (·.1) = unlistD now (l.map (·.1)) d nm m) := by
        show _ = _
        rw [uh HUE _ (uh HND), ← uh HM2, uh HMM, if_neg hk]
      have HD6 := hide (fun q => (uh HD4).step (below_drew W4 q) (uh HB))
      generalize mm.kind.toNat = K at *
      clear hk
      go_wp2_with fail
      go_quiet (fail)
      go_wp2_with fail
      go_end0
      exact ⟨rfl, ⟨_, (uh HD6 nq).df, uh HM6⟩, (uh HD6 nq).below⟩
end Go.Proofs.YtidhceebafmlkaaGreatDoor.Ca

namespace Go.Proofs.YtidhceebafmlkaaGreatDoor.Ca
open Go.RowKit Cu Tr Pm Pt
def Ot (w : World) (B : Nat) (v : Value) (ns : List Nd) : Prop := ∃ l : List Nv, RowN B v l w ∧ (∀ x ∈ l, Hd B w x) ∧ l.Pairwise Apt ∧ l.map (·.1) = ns
theorem ot_nil (w : World) (B : Nat) : Ot w B nl [] := ⟨[], World.ownsRow_nil _ _ _ _, by simp, List.Pairwise.nil, rfl⟩
theorem Df.low {w w' : World} {B D : Nat} {now : Int} {v : Value} {l : List Nv} (h : Df w B D now v l) (hk : ∀ k, B ≤ k → w'.heap[k]? = w.heap[k]?) : Df w' B D now v l :=
  ⟨(hk D h.hD).trans h.box, h.hD, own_keep h.row fun k q => hk k (h.row.lt k q).1, fun x hx => ⟨own_keep (h.own x hx).1 fun k q => hk k ((h.own x hx).1.lt k q).1, own_keep (h.own x hx).2 fun k q => hk k ((h.own x hx).2.lt k q).1⟩, h.ap⟩
theorem Df.ot {w : World} {B D : Nat} {now : Int} {v : Value} {l : List Nv} (h : Df w B D now v l) {B' : Nat} (hb : B' ≤ B) {ns : List Nd} (e : l.map (·.1) = ns) : Ot w B' v ns :=
  ⟨l, own_base h.row hb, fun x hx => ⟨own_base (h.own x hx).1 hb, own_base (h.own x hx).2 hb⟩, h.ap, e⟩
def DoR (R : Ans) (w : World) (e : Ending) (w' : World) : Prop := (∃ v, e = .returned (.tuple #[.agg #[v, .int .i64 R.1.2], .int .i64 R.2]) ∧ Ot w' w.heap.size v R.1.1) ∧ Below w.heap.size w w'
abbrev zTree : Array Value := #[.slice none 0 0, .int .i64 0]
theorem room_cells {w W : World} (hb : Below (w.alloc (.cells zTree 24)).heap.size (w.alloc (.cells zTree 24)) W) :
    W.cell? ⟨w.heap.size, 0, none⟩ = some (.slice none 0 0) ∧ W.cell? ⟨w.heap.size, 1, none⟩ = some (.int .i64 0) ∧ W.frozen? ⟨w.heap.size, 0, none⟩ = false ∧ W.frozen? ⟨w.heap.size, 1, none⟩ = false := by
  have q := (hb.block w.heap.size (by simp)).trans (heap_alloc_new w _)
  refine ⟨?_, ?_, ?_, ?_⟩
  · rw [cell_of_row _ _ _ _ _ _ q]; rfl
  · rw [cell_of_row _ _ _ _ _ _ q]; rfl
  · simp [World.frozen?, q]
  · simp [World.frozen?, q]
theorem room_below {w W : World} (hb : Below (w.alloc (.cells zTree 24)).heap.size (w.alloc (.cells zTree 24)) W) (u v : Value) : Below w.heap.size w ((W.setCell ⟨w.heap.size, 0, none⟩ u).setCell ⟨w.heap.size, 1, none⟩ v) :=
  ((((al_below w _).trans (hb.mono (al_below w _).size)).setCell (p := ⟨w.heap.size, 0, none⟩) (Nat.le_refl _) _).setCell (p := ⟨w.heap.size, 1, none⟩) (Nat.le_refl _) _)
theorem Df.room {W : World} {B D : Nat} {now : Int} {v : Value} {l : List Nv} (h : Df W B D now v l) {R : Nat} (hR : R < B) (a b : Value) : Df ((W.setCell ⟨R, 0, none⟩ a).setCell ⟨R, 1, none⟩ b) B D now v l :=
  h.low fun k hk => by
    rw [heap_setCell_other _ ⟨R, _, none⟩ _ _ (show k ≠ R by omega), heap_setCell_other _ ⟨R, _, none⟩ _ _ (show k ≠ R by omega)]
theorem data_small {n : Nd} (h : kindP n = true) : n.data.length ≤ 65536 := by
  unfold kindP at h
  split at h
  · unfold freeP at h
    simp only [Bool.and_eq_true, decide_eq_true_eq] at h
    omega
  split at h
  · unfold fileP at h
    simp only [Bool.and_eq_true, decide_eq_true_eq] at h
    omega
  split at h
  · unfold dirP at h
    simp only [Bool.and_eq_true, decide_eq_true_eq] at h
    omega
  split at h
  · unfold linkP at h
    simp only [Bool.and_eq_true, decide_eq_true_eq] at h
    omega
  · cases h
theorem sumTo_mono (n : Nat) (f g : Nat → Nat) (h : ∀ i, i < n → f i ≤ g i) : sumTo n f ≤ sumTo n g := sumTo_le n f g h
theorem names_sum (ns : List Nd) : ∀ k, k ≤ ns.length → namesP ns k = sumTo k fun y => (nd ns y).list.length := by
  intro k
  induction k with
  | zero => intro _; rfl
  | succ k ih => intro hk; rw [namesP_succ ns k (by omega), sumTo_succ, ih (by omega)]
theorem times_small {ns : List Nd} (x : Nat) : times ns x ≤ namesP ns ns.length := by
  rw [names_sum ns _ (Nat.le_refl _)]
  unfold times
  refine sumTo_mono _ _ _ fun y _ => ?_
  split
  · unfold tg
    exact Nat.le_trans List.count_le_length (by simp)
  · exact Nat.zero_le _
theorem links_small {now : Int} {ns : List Nd} (h : checkP now ns = true) (i : Nat) (hi : i < ns.length) : 0 ≤ (nd ns i).links ∧ (nd ns i).links ≤ 100000 := by
  obtain ⟨_, _, k0, k1, _, hk, _, hl, _⟩ := checkP_parts h
  have hu := hung_check h
  by_cases h2 : (nd ns i).kind = 2
  · obtain ⟨⟨_, c⟩, _⟩ := hu.good i hi h2
    have q : dirsIn ns (nd ns i).list ≤ (nd ns i).list.length := by unfold dirsIn; exact List.length_filter_le _ _
    have := lists_small h i
    omega
  by_cases h0 : (nd ns i).kind = 0
  · have q := hk i hi
    unfold kindP at q
    rw [if_pos h0] at q
    unfold freeP at q
    simp only [Bool.and_eq_true, decide_eq_true_eq] at q
    omega
  · have hi2 : 2 ≤ i := by
      rcases Nat.lt_or_ge i 2 with q | q
      · rcases (show i = 0 ∨ i = 1 by omega) with rfl | rfl
        · exact absurd k0 h0
        · exact absurd k1 h2
      · exact q
    have q := hu.links i hi2 hi h0 h2
    have q2 := times_small (ns := ns) i
    unfold limitsP at hl
    simp only [Bool.and_eq_true, decide_eq_true_eq] at hl
    omega
theorem dir_ok {now : Int} {ns : List Nd} (h : checkP now ns = true) {d : Nat} (hd : Dr ns d) {l : List Nv} (hm : l.map (·.1) = ns) :
    d < l.length ∧ (l.getD d zNv).1.kind = 2 ∧ Rises (l.getD d zNv).1.list ∧ (l.getD d zNv).1.list.length ≤ 100000 ∧ -1000000000 ≤ (l.getD d zNv).1.links ∧ (l.getD d zNv).1.links ≤ 1000000000 := by
  have hl : l.length = ns.length := by rw [← hm, List.length_map]
  have hdl : d < l.length := by rw [hl]; exact hd.2.1
  rw [getD_fst l d hdl, hm]
  have q := lists_small h d
  have q2 := links_small h d hd.2.1
  exact ⟨hdl, hd.2.2, rises_of (dr_list h hd), by omega, by omega, by omega⟩
theorem copy_any {A : Nat} {x : Option Addr} {n cap : Nat} {dx : Option Addr} {dc : Nat} {a : Ac} {W : World} (h : At W A x n cap dx dc a) :
    Calls Tryz.prog 194 #[.pointer (some ⟨A, 0, none⟩)] W fun e w' => (∃ D v l, e = .returned (.pointer (some ⟨D, 0, none⟩)) ∧ Df w' W.heap.size D a.now v l ∧ l.map (·.1) = a.ns) ∧ Below W.heap.size W w' := by
  have hl := h.len
  have hs := sm_of h.chk
  refine copied_any A _ x n cap a.ns a.now W h.box rfl rfl h.ng (by omega) (by omega) (fun i => ?_) (fun i => by have := lists_small h.chk i; omega)
  by_cases hi : i < a.ns.length
  · have := data_small ((checkP_parts h.chk).2.2.2.2.2.1 i hi); omega
  · rw [nd_out (by omega)]; simp
end Go.Proofs.YtidhceebafmlkaaGreatDoor.Ca
