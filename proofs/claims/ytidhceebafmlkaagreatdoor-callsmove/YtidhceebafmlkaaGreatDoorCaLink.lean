import Derived.Test.YtidhceebafmlkaaGreatDoorCaKind
import Derived.BigRegion
namespace Go.Proofs.YtidhceebafmlkaaGreatDoor.Ca
open Go.RowKit Cu Tr Pm Pt
def Lb (ns : List Nd) (K : Int) : Prop := ∀ i, -K ≤ (nd ns i).links ∧ (nd ns i).links ≤ K
theorem nd_upd (ns : List Nd) (i k : Nat) (f : Nd → Nd) : nd (upd ns i f) k = if i = k ∧ k < ns.length then f (nd ns i) else nd ns k := by
  unfold upd
  by_cases hk : k < ns.length
  · by_cases e : i = k
    · subst e
      rw [if_pos ⟨rfl, hk⟩]
      simp [nd, List.getD, hk]
    · rw [if_neg (fun h => e h.1)]
      simp [nd, List.getD, List.getElem?_set_ne e]
  · rw [if_neg (fun h => hk h.2)]
    simp [nd, List.getD, hk]
theorem upd_len (ns : List Nd) (i : Nat) (f : Nd → Nd) : (upd ns i f).length = ns.length := by unfold upd; rw [List.length_set]
theorem Lb.upd {ns : List Nd} {K : Int} (h : Lb ns K) (i : Nat) (f : Nd → Nd) (hf : ∀ x, x.links - 1 ≤ (f x).links ∧ (f x).links ≤ x.links + 1) : Lb (upd ns i f) (K + 1) := fun k => by
  rw [nd_upd]
  split
  · have := h i; have := hf (nd ns i); omega
  · have := h k; omega
theorem lb_of {now : Int} {ns : List Nd} (h : checkP now ns = true) : Lb ns 100000 := fun i => by
  by_cases hi : i < ns.length
  · have := links_small h i hi; omega
  · rw [nd_out (by omega)]; simp
theorem unlist_lb {now : Int} {ns : List Nd} {K : Int} (h : Lb ns K) (d m : Nat) (s : ByteArray) : Lb (unlistD now ns d s m) (K + 3) := by
  unfold unlistD
  simp only
  have h1 := (h.upd d (fun x => { x with list := if hasE x.list s then delE x.list (posE x.list s) else x.list }) (fun x => by simp; omega)).upd d (fun x => { x with time := now }) (fun x => by simp; omega)
  split
  · have h2 := h1.upd d (fun x => { x with links := x.links - 1 }) (fun x => by simp; omega)
    intro i; have := h2 i; omega
  · intro i; have := h1 i; omega
theorem unlist_len {now : Int} (ns : List Nd) (d m : Nat) (s : ByteArray) : (unlistD now ns d s m).length = ns.length := by
  unfold unlistD
  simp only
  split
  · rw [upd_len, upd_len, upd_len]
  · rw [upd_len, upd_len]
set_option maxRecDepth 100000 in
set_option maxHeartbeats 2000000 in
theorem removed_any (A : Nat) (x : Option Addr) (n cap : Nat) (dx : Option Addr) (dc : Nat) (a : Ac) (w : World) (h : At w A x n cap dx dc a) (hp : Okp a.ns a.p) :
    Calls Tryz.prog 200 #[.pointer (some ⟨A, 0, none⟩)] w fun e w' => (∃ va vn vc, e = .returned (.agg #[.slice va vn vc, .int .i64 a.now]) ∧ Ot w' w.heap.size (.slice va vn vc) a.removed) ∧ Below w.heap.size w w' := by
  obtain ⟨pd, hpd, hdr⟩ := hp.dir
  obtain ⟨pm, hpm, hpn, -⟩ := hp.node h.chk
  have HCK := hide h.chk
  have HDR := hide hdr
  have HPM := hide hpn
  have HV : Hid (a.removed = loseD (unlistD a.now a.ns pd a.p.name pm) pm) := by show _ = _; unfold Ac.removed; rw [hpd, hpm]; rfl
  have HPV : Hid (pv a.p = pv ⟨(pd : Int), a.p.name, (pm : Int), a.p.dirs⟩) := by show _ = _; rw [← hpd, ← hpm]
  have HPN : Hid (a.p.node = (pm : Int)) := hpm
  obtain ⟨w1, hw1⟩ : ∃ w1, w1 = w.alloc (.cells zTree 24) := ⟨_, rfl⟩
  have HA : Hid (At w1 A x n cap dx dc a) := by rw [hw1]; exact h.al _
  have HRB : Hid (w.heap.size < w1.heap.size) := by rw [hw1]; show _ < _; simp
  have HW1 := hide hw1
  clear h hw1 hp hpd hpm hpn hdr
  go_enter Tryz.func200, Tryz.ntmps200
  go_upto_region 1 with fail
  rw [← uh HW1]
  have HCP := hide (copy_any (uh HA))
  go_wp2_with fail
  refine (uh HCP).mono ?_
  rintro e w2 ⟨⟨D, v2, l2, rfl, hdf2, hm2⟩, hb2⟩
  obtain ⟨k1, k2, k3, k4, k5, k6⟩ := dir_ok (uh HCK) (uh HDR) hm2
  have hl2 : l2.length = a.ns.length := by rw [← hm2, List.length_map]
  have HA2 := hide ((uh HA).below hb2)
  have CB2 := hide hb2
  have HUL := hide (unlist_any w1.heap.size D a.now v2 l2 pd pm a.p.name a.p.dirs w2 hdf2 hb2.size k1 (by rw [hl2]; exact uh HPM) k3 k4 ⟨k5, k6⟩)
  rw [← uh HPV, hm2] at HUL
  have HD2 := hide hdf2
  have HL2 := hide hl2
  obtain ⟨-, -, -, -, -, -, -, -, -, -, -, -, -, -, c14, c15, c16, c17, -⟩ := (uh HA2).cells
  clear hdf2 hm2 hb2 k1 k2 k3 k4 k5 k6 hl2 HCP
  go_wp2_with fail
  refine (uh HUL).mono ?_
  rintro e w3 ⟨rfl, ⟨l3, hdf3, hm3⟩, hb3⟩
  have CB3 := hide ((uh CB2).trans hb3)
  have HA3 := hide ((uh HA).below (uh CB3))
  have hl3 : l3.length = a.ns.length := by rw [← List.length_map (f := fun x : Nv => x.1), hm3, unlist_len]
  have hlb : -1000000000 ≤ (l3.getD pm zNv).1.links ∧ (l3.getD pm zNv).1.links ≤ 1000000000 := by
    rw [getD_fst l3 pm (by rw [hl3]; exact uh HPM), hm3]
    have := unlist_lb (now := a.now) (lb_of (uh HCK)) pd pm a.p.name pm
    omega
  have hln := (uh HA).len
  have HLO := hide (lose_any w1.heap.size D a.now v2 l3 pm w3 hdf3 (by rw [hl3]; exact uh HPM) (by omega) (by omega) hlb)
  rw [hm3] at HLO
  obtain ⟨-, -, -, -, -, -, -, -, -, -, -, -, -, -, d14, d15, d16, d17, -⟩ := (uh HA3).cells
  rw [uh HPN] at d16
  clear hdf3 hm3 hb3 hl3 hlb hln HUL c14 c15 c16 c17
  go_wp2_with fail
  refine (uh HLO).mono ?_
  rintro e w4 ⟨rfl, ⟨v4, l4, hdf4, hm4⟩, hb4⟩
  obtain ⟨va4, vc4, hv4⟩ := own_sl hdf4.row
  subst hv4
  have CB4 := hide ((uh CB3).trans hb4)
  have HBW := hide (show Below (w.alloc (.cells zTree 24)).heap.size (w.alloc (.cells zTree 24)) w4 from by rw [← uh HW1]; exact uh CB4)
  obtain ⟨r0, r1, z0, z1⟩ := room_cells (uh HBW)
  obtain ⟨t0, t1, -⟩ := hdf4.cells
  have HDF := hide ((hdf4.room (uh HRB) (.slice va4 l4.length vc4) (.int .i64 a.now)).ot (Nat.le_of_lt (uh HRB)) (hm4.trans (uh HV).symm))
  have HF := hide (room_below (uh HBW) (.slice va4 l4.length vc4) (.int .i64 a.now))
  clear hdf4 hm4 hb4 HLO d14 d15 d16 d17 HW1
  go_wp2_with fail
  refine bodyPost_ret (v := .agg #[.slice va4 l4.length vc4, .int .i64 a.now]) (by simp [results, Tryz.results200, go_sem, r0, r1]) rfl ⟨⟨_, _, _, rfl, uh HDF⟩, uh HF⟩
end Go.Proofs.YtidhceebafmlkaaGreatDoor.Ca

namespace Go.Proofs.YtidhceebafmlkaaGreatDoor.Ca
open Go.RowKit Cu Tr Pm Pt
theorem listD_len {now : Int} (ns : List Nd) (d m : Nat) (s : ByteArray) : (listD now ns d s m).length = ns.length := by
  unfold listD
  simp only
  split
  · rw [upd_len, upd_len, upd_len, upd_len]
  · rw [upd_len, upd_len]
theorem listD_lb {now : Int} {ns : List Nd} {K : Int} (h : Lb ns K) (d m : Nat) (s : ByteArray) : Lb (listD now ns d s m) (K + 4) := by
  unfold listD
  simp only
  have h1 := (h.upd d (fun x => { x with list := insE x.list (posE x.list s) ⟨s, (m : Int)⟩ }) (fun x => by simp; omega)).upd d (fun x => { x with time := now }) (fun x => by simp; omega)
  split
  · have h2 := (h1.upd m (fun x => { x with parent := (d : Int) }) (fun x => by simp; omega)).upd d (fun x => { x with links := x.links + 1 }) (fun x => by simp; omega)
    intro i; have := h2 i; omega
  · intro i; have := h1 i; omega
set_option maxRecDepth 100000 in
set_option maxHeartbeats 4000000 in
theorem link_any (A : Nat) (x : Option Addr) (n cap : Nat) (dx : Option Addr) (dc : Nat) (a : Ac) (w : World) (h : At w A x n cap dx dc a) (hp : Okp a.ns a.p) (hq : Okp a.ns a.q) :
    Calls Tryz.prog 127 #[.pointer (some ⟨A, 0, none⟩)] w (DoR a.link w) := by
  obtain ⟨pd, hpd, hdr⟩ := hp.dir
  obtain ⟨pm, hpm, hpn, -⟩ := hp.node h.chk
  obtain ⟨qd, hqd, hqr⟩ := hq.dir
  obtain ⟨b1, hb1⟩ : ∃ b, b = nameless a.p := ⟨_, rfl⟩
  obtain ⟨b2, hb2⟩ : ∃ b, b = isN a.here := ⟨_, rfl⟩
  obtain ⟨b3, hb3⟩ : ∃ b, b = isD a.here := ⟨_, rfl⟩
  have HNM : Hid (∀ W, At W A x n cap dx dc a → Calls Tryz.prog 189 #[.agg (pv a.p)] W fun e w' => e = .returned (.bool b1) ∧ Below W.heap.size W w') := fun W _ => by rw [hb1]; exact isNameless_any a.p W
  have HH : Hid (∀ W, At W A x n cap dx dc a → Calls Tryz.prog 186 #[.pointer (some ⟨A, 0, none⟩)] W fun e w' => (∃ v, e = .returned v ∧ IsNd w' v a.here) ∧ Below W.heap.size W w') := fun W hW => here_any A x n cap dx dc a pm W hW hpm hpn
  have HIN : Hid (∀ v W, IsNd W v a.here → Calls Tryz.prog 190 #[v] W fun e w' => e = .returned (.bool b2) ∧ Below W.heap.size W w') := fun v W hW => by rw [hb2]; exact isNone_any v a.here W hW
  have HID : Hid (∀ v W, IsNd W v a.here → Calls Tryz.prog 197 #[v] W fun e w' => e = .returned (.bool b3) ∧ Below W.heap.size W w') := fun v W hW => by rw [hb3]; exact isDir_any' v a.here W hW
  have HMN : Hid (∀ W, At W A x n cap dx dc a → Calls Tryz.prog 201 #[.pointer (some ⟨A, 0, none⟩)] W fun e w' => e = .returned (.int .i64 a.mayName) ∧ Below W.heap.size W w') := fun W hW => mayName_any A x n cap dx dc a W hW hq
  have HCK := hide h.chk
  have HDR := hide hqr
  have HPM := hide hpm
  have HPN := hide hpn
  have HQV : Hid (pv a.q = pv ⟨(qd : Int), a.q.name, a.q.node, a.q.dirs⟩) := by show _ = _; rw [← hqd]
  have HQD : Hid (a.q.dir.toNat = qd) := by show _ = _; rw [hqd]; rfl
  clear hp hq hpd hdr hpm hpn hqd hqr
  obtain ⟨er, hER⟩ : ∃ er, Hid (er = orP [wh (nameless a.p) 8, wh (isN a.here) 6, wh (isD a.here) 8, a.mayName]) := ⟨_, rfl⟩
  obtain ⟨RR, hRR⟩ : ∃ RR, RR = a.link := ⟨_, rfl⟩
  rw [← hRR]
  have HK : Hid (RR = if er ≠ 0 then no er else yes a.now (upd (listD a.now a.ns a.q.dir.toNat a.q.name a.p.node.toNat) a.p.node.toNat fun x => { x with links := x.links + 1 })) := by show _ = _; rw [hRR, uh hER]; rfl
  clear hRR
  obtain ⟨w1, hw1⟩ : ∃ w1, w1 = w.alloc (.cells zTree 24) := ⟨_, rfl⟩
  have hA1 : At w1 A x n cap dx dc a := by rw [hw1]; exact h.al _
  have HA0 : Hid (At w1 A x n cap dx dc a) := hA1
  have BB0 : Hid (Below w1.heap.size w1 w1) := Below.refl _ _
  have HW1 := hide hw1
  clear h hw1 hA1
  go_enter Tryz.func127, Tryz.ntmps127
  go_upto_region 1 with fail
  rw [← uh HW1]
  go_cut [4] (fun u wx => u = .int .i64 er ∧ Hid (At wx A x n cap dx dc a) ∧ Hid (Below w1.heap.size w1 wx))
  case first =>
    rw [← hb1, ← hb2, ← hb3] at hER
    clear hb1 hb2 hb3
    obtain ⟨c0, c1, c2, c3, c4, c5, c6, c7, c8, c9, c10, c11, c12, c13, c14, c15, c16, c17, c18, c19, c20, c21⟩ := (uh HA0).cells
    go_wp2_with fail
    clear c0 c1 c2 c3 c4 c5 c6 c7 c8 c9 c10 c11 c12 c13 c14 c15 c16 c17 c18 c19 c20 c21
    refine (uh HNM _ (uh HA0)).mono ?_; rintro e w1 ⟨rfl, hb1⟩; have HA1 := hide ((uh HA0).below hb1); have BB1 := hide ((uh BB0).trans (hb1.mono (uh BB0).size)); clear hb1
    obtain ⟨c0, c1, c2, c3, c4, c5, c6, c7, c8, c9, c10, c11, c12, c13, c14, c15, c16, c17, c18, c19, c20, c21⟩ := (uh HA1).cells
    go_wp2_with fail
    clear c0 c1 c2 c3 c4 c5 c6 c7 c8 c9 c10 c11 c12 c13 c14 c15 c16 c17 c18 c19 c20 c21
    refine (when_any _ _ _).mono ?_; rintro e ww5 ⟨rfl, hw5⟩; subst hw5
    obtain ⟨c0, c1, c2, c3, c4, c5, c6, c7, c8, c9, c10, c11, c12, c13, c14, c15, c16, c17, c18, c19, c20, c21⟩ := (uh HA1).cells
    go_wp2_with fail
    clear c0 c1 c2 c3 c4 c5 c6 c7 c8 c9 c10 c11 c12 c13 c14 c15 c16 c17 c18 c19 c20 c21
    refine (uh HH _ (uh HA1)).mono ?_; rintro e w2 ⟨⟨v2, rfl, hnd2⟩, hb2⟩; have HN2 := hide hnd2; have HA2 := hide ((uh HA1).below hb2); have BB2 := hide ((uh BB1).trans (hb2.mono (uh BB1).size)); clear hb2; clear hnd2
    obtain ⟨c0, c1, c2, c3, c4, c5, c6, c7, c8, c9, c10, c11, c12, c13, c14, c15, c16, c17, c18, c19, c20, c21⟩ := (uh HA2).cells
    go_wp2_with fail
    clear c0 c1 c2 c3 c4 c5 c6 c7 c8 c9 c10 c11 c12 c13 c14 c15 c16 c17 c18 c19 c20 c21
    refine (uh HIN _ _ (uh HN2)).mono ?_; rintro e w3 ⟨rfl, hb3⟩; have HA3 := hide ((uh HA2).below hb3); have BB3 := hide ((uh BB2).trans (hb3.mono (uh BB2).size)); clear hb3
    obtain ⟨c0, c1, c2, c3, c4, c5, c6, c7, c8, c9, c10, c11, c12, c13, c14, c15, c16, c17, c18, c19, c20, c21⟩ := (uh HA3).cells
    go_wp2_with fail
    clear c0 c1 c2 c3 c4 c5 c6 c7 c8 c9 c10 c11 c12 c13 c14 c15 c16 c17 c18 c19 c20 c21
    refine (when_any _ _ _).mono ?_; rintro e ww9 ⟨rfl, hw9⟩; subst hw9
    obtain ⟨c0, c1, c2, c3, c4, c5, c6, c7, c8, c9, c10, c11, c12, c13, c14, c15, c16, c17, c18, c19, c20, c21⟩ := (uh HA3).cells
    go_wp2_with fail
    clear c0 c1 c2 c3 c4 c5 c6 c7 c8 c9 c10 c11 c12 c13 c14 c15 c16 c17 c18 c19 c20 c21
    refine (uh HH _ (uh HA3)).mono ?_; rintro e w4 ⟨⟨v4, rfl, hnd4⟩, hb4⟩; have HN4 := hide hnd4; have HA4 := hide ((uh HA3).below hb4); have BB4 := hide ((uh BB3).trans (hb4.mono (uh BB3).size)); clear hb4; clear hnd4
    obtain ⟨c0, c1, c2, c3, c4, c5, c6, c7, c8, c9, c10, c11, c12, c13, c14, c15, c16, c17, c18, c19, c20, c21⟩ := (uh HA4).cells
    go_wp2_with fail
    clear c0 c1 c2 c3 c4 c5 c6 c7 c8 c9 c10 c11 c12 c13 c14 c15 c16 c17 c18 c19 c20 c21
    refine (uh HID _ _ (uh HN4)).mono ?_; rintro e w5 ⟨rfl, hb5⟩; have HA5 := hide ((uh HA4).below hb5); have BB5 := hide ((uh BB4).trans (hb5.mono (uh BB4).size)); clear hb5
    obtain ⟨c0, c1, c2, c3, c4, c5, c6, c7, c8, c9, c10, c11, c12, c13, c14, c15, c16, c17, c18, c19, c20, c21⟩ := (uh HA5).cells
    go_wp2_with fail
    clear c0 c1 c2 c3 c4 c5 c6 c7 c8 c9 c10 c11 c12 c13 c14 c15 c16 c17 c18 c19 c20 c21
    refine (when_any _ _ _).mono ?_; rintro e ww13 ⟨rfl, hw13⟩; subst hw13
    obtain ⟨c0, c1, c2, c3, c4, c5, c6, c7, c8, c9, c10, c11, c12, c13, c14, c15, c16, c17, c18, c19, c20, c21⟩ := (uh HA5).cells
    go_wp2_with fail
    clear c0 c1 c2 c3 c4 c5 c6 c7 c8 c9 c10 c11 c12 c13 c14 c15 c16 c17 c18 c19 c20 c21
    refine (uh HMN _ (uh HA5)).mono ?_; rintro e w6 ⟨rfl, hb6⟩; have HA6 := hide ((uh HA5).below hb6); have BB6 := hide ((uh BB5).trans (hb6.mono (uh BB5).size)); clear hb6
    obtain ⟨c0, c1, c2, c3, c4, c5, c6, c7, c8, c9, c10, c11, c12, c13, c14, c15, c16, c17, c18, c19, c20, c21⟩ := (uh HA6).cells
    go_wp2_with fail
    clear c0 c1 c2 c3 c4 c5 c6 c7 c8 c9 c10 c11 c12 c13 c14 c15 c16 c17 c18 c19 c20 c21
    refine (or4_any _ _ _ _ _ _ rfl).mono ?_; rintro e ww17 ⟨rfl, hw17⟩; subst hw17
    go_wp2_with fail
    go_meet
    exact ⟨by rw [uh hER], (uh HA6).al _, (uh BB6).alloc (uh BB6).size _⟩
  case rest =>
    obtain ⟨rfl, HA, HBB⟩ := hcut
    rw [uh HW1] at HBB
    clear HA0 BB0 hER
    by_cases her : er = 0
    · have HK2 : Hid (RR = yes a.now (upd (listD a.now a.ns a.q.dir.toNat a.q.name a.p.node.toNat) a.p.node.toNat fun x => { x with links := x.links + 1 })) := by show _ = _; rw [uh HK, if_neg (fun q => q her)]
      have hern : (er != 0) = false := by simpa using her
      subst her
      clear HK hern
      have HRB : Hid (w.heap.size < wc.heap.size) := by show _ < _; have := (uh HBB).size; simp at this; omega
      have HCP := hide (copy_any (uh HA))
      go_wp2_with fail
      refine (uh HCP).mono ?_
      rintro e w2 ⟨⟨D, v2, l2, rfl, hdf2, hm2⟩, hb2⟩
      obtain ⟨k1, k2, k3, k4, k5, k6⟩ := dir_ok (uh HCK) (uh HDR) hm2
      have hl2 : l2.length = a.ns.length := by rw [← hm2, List.length_map]
      have CB2 := hide hb2
      have HA2 := hide ((uh HA).below hb2)
      have HAd : Hid (At w2.drew A x n cap dx dc a) := (uh HA2).dr
      have HLC := hide (list_any wc.heap.size D a.now v2 l2 qd pm a.q.name a.q.node a.q.dirs w2.drew hdf2.dr hb2.size k1 (by rw [hl2]; exact uh HPN) k3 k4 ⟨k5, k6⟩)
      rw [← uh HQV, hm2, ← uh HPM] at HLC
      clear hdf2 hm2 hb2 k1 k2 k3 k4 k5 k6 hl2 HCP
      go_wp2_with fail
      refine wp_region_held_drew (S := (fun w' => At w' A x n cap dx dc a)) (by kernel_rfl) (uh HAd) (fun hHeld => ?_)
      refine tk 0 rfl (v := ?v43) (.inl ⟨by rfl, ?hy43⟩) ?rest43
      case hy43 => intro w hSw; have hSc := At.cells hSw; go_simp; try with_reducible rfl
      try simp only [pS]
      refine tk 1 rfl (v := ?v44) (.inl ⟨by rfl, ?hy44⟩) ?rest44
      case hy44 => intro w hSw; have hSc := At.cells hSw; go_simp; try with_reducible rfl
      try simp only [pS]
      refine tk 2 rfl (v := ?v45) (.inl ⟨by rfl, ?hy45⟩) ?rest45
      case hy45 => intro w hSw; have hSc := At.cells hSw; go_simp; try with_reducible rfl
      try simp only [pS]
      refine tk 3 rfl (v := ?v46) (.inl ⟨by rfl, ?hy46⟩) ?rest46
      case hy46 => intro w hSw; have hSc := At.cells hSw; go_simp; try with_reducible rfl
      try simp only [pS]
      refine tk 4 rfl (v := ?v47) (.inl ⟨by rfl, ?hy47⟩) ?rest47
      case hy47 => intro w hSw; have hSc := At.cells hSw; go_simp; try with_reducible rfl
      try simp only [pS]
      refine tk 5 rfl (v := ?v48) (.inl ⟨by rfl, ?hy48⟩) ?rest48
      case hy48 => intro w hSw; have hSc := At.cells hSw; go_simp; try with_reducible rfl
      try simp only [pS]
      refine tk 6 rfl (v := ?v49) (.inl ⟨by rfl, ?hy49⟩) ?rest49
      case hy49 => intro w hSw; have hSc := At.cells hSw; go_simp; try with_reducible rfl
      try simp only [pS]
      refine tk 7 rfl (v := ?v50) (.inl ⟨by rfl, ?hy50⟩) ?rest50
      case hy50 => intro w hSw; have hSc := At.cells hSw; go_simp; try with_reducible rfl
      try simp only [pS]
      refine tk 8 rfl (v := ?v51) (.inl ⟨by rfl, ?hy51⟩) ?rest51
      case hy51 => intro w hSw; have hSc := At.cells hSw; go_simp; try with_reducible rfl
      try simp only [pS]
      refine tk 9 rfl (v := ?v52) (.inl ⟨by rfl, ?hy52⟩) ?rest52
      case hy52 => intro w hSw; have hSc := At.cells hSw; go_simp; try with_reducible rfl
      try simp only [pS]
      refine wpAnyH_ready (rs := [10]) (by kernel_rfl) (by simp) ?_
      refine rc rfl fun K hK => ?_
      go_simp
      refine (uh HLC).mono ?_; rintro e w3 ⟨rfl, ⟨l3, hdf3, hm3⟩, hb3⟩; have CB3 := hide ((below_dr (uh CB2)).trans hb3); have HA3 := hide ((uh HA).below (uh CB3)); have HD3 := hide hdf3; have HMx := hide hm3; clear hdf3 hm3 hb3
      go_wp2_with fail
      refine hK.out _ _ (by first | exact (uh HA3) | assumption | (dsimp only; assumption)) (fun hHeld2 => ?_)
      clear hK K
      try simp only [pS]
      refine wpAnyH_done (by kernel_rfl) ?_ _
      have hl3 : l3.length = a.ns.length := by rw [← List.length_map (f := fun x : Nv => x.1), uh HMx, listD_len]
      have hpl : pm < l3.length := by rw [hl3]; exact uh HPN
      have hal := (uh HA).len
      obtain ⟨g, c, hvg⟩ := (uh HD3).at (by omega)
      subst hvg
      have hpl2 : (pm : Int) < (l3.length : Int) := by omega
      obtain ⟨m2, dv2, lv2, hx2⟩ : ∃ m2 dv2 lv2, l3.getD pm zNv = (m2, dv2, lv2) := ⟨_, _, _, rfl⟩
      have hlb : -1000000000 ≤ m2.links ∧ m2.links ≤ 1000000000 := by
        have e : m2 = nd (l3.map (·.1)) pm := by rw [← getD_fst l3 pm hpl, hx2]
        rw [e, uh HMx]
        have := listD_lb (now := a.now) (lb_of (uh HCK)) qd pm a.q.name pm
        omega
      obtain ⟨lo, hi⟩ := hlb
      have HD6 := hide (((uh HD3).upd1 pm 4 (.int .i64 (m2.links + 1)) (fun x => { x with links := x.links + 1 }) hpl (by omega) (fun m' dv' lv' => by
        by_cases e : l3.getD pm zNv = (m', dv', lv')
        · refine .inl ?_
          rw [hx2] at e
          injection e with e _
          rw [← e]; rfl
        · exact .inr e) (fun _ => rfl) (fun _ => rfl)).dr)
      have CB6 := hide (below_dr ((uh CB3).setCell (p := ⟨g, pm * 10 + 4, none⟩) (uh HD3).ne.2.1 (.int .i64 (m2.links + 1))))
      have HM6 : Hid ((updL l3 pm fun x => { x with links := x.links + 1 }).map (·.1) = upd (listD a.now a.ns a.q.dir.toNat a.q.name a.p.node.toNat) a.p.node.toNat fun x => { x with links := x.links + 1 }) := by
        show _ = _
        rw [updL_fst _ _ hpl, uh HMx, uh HQD, uh HPM]; rfl
      obtain ⟨n0, n1, n2, n3, n4, n5, n6, n7, n8, n9⟩ := (uh HD3).ten pm hpl hx2
      have fz := (uh HD3).frozen (pm * 10 + 4)
      obtain ⟨t0, t1, -⟩ := (uh HD3).cells
      have hv := (uh HA3).cells
      rw [uh HPM] at hv
      generalize updL l3 pm (fun x => { x with links := x.links + 1 }) = l6 at *
      obtain ⟨L, hL⟩ : ∃ L, L = m2.links := ⟨_, rfl⟩
      rw [← hL] at n4 lo hi HD6 CB6
      clear hx2 hL hl3 hpl hal HD3 CB3 HA3
      go_wp2_with fail
      go_region
      go_upto_region 7 with fail
      obtain ⟨w4, hw4⟩ : ∃ w4, w4 = (w3.setCell ⟨g, pm * 10 + 4, none⟩ (.int .i64 (L + 1))).drew := ⟨_, rfl⟩
      rw [← hw4]
      have HD4 : Hid (Df w4 wc.heap.size D a.now (.slice (some ⟨g, 0, none⟩) l3.length c) l6) := by rw [hw4]; exact (uh HD6)
      have CB4 : Hid (Below wc.heap.size wc w4) := by rw [hw4]; exact uh CB6
      clear HD6 CB6 hw4 n0 n1 n2 n3 n4 n5 n6 n7 n8 n9 fz t0 t1 hv
      have HBW := hide ((uh HBB).trans ((uh CB4).mono (by have := uh HRB; have := (uh HBB).size; omega)))
      obtain ⟨r0, r1, z0, z1⟩ := room_cells (uh HBW)
      obtain ⟨t0, t1, -⟩ := (uh HD4).cells
      have HDF := hide (((uh HD4).room (uh HRB) (.slice (some ⟨g, 0, none⟩) l3.length c) (.int .i64 a.now)).ot (Nat.le_of_lt (uh HRB)) (uh HM6))
      have HF := hide (room_below (uh HBW) (.slice (some ⟨g, 0, none⟩) l3.length c) (.int .i64 a.now))
      go_wp2_with fail
      refine bodyPost_ret (v := .tuple #[.agg #[.slice (some ⟨g, 0, none⟩) l3.length c, .int .i64 a.now], .int .i64 0]) (by simp [results, Tryz.results127, go_sem, r0, r1]) rfl ?_
      show DoR RR w _ _
      rw [uh HK2]
      exact ⟨⟨_, rfl, uh HDF⟩, uh HF⟩
    · have HRD := hide (room_cells (uh HBB))
      have HF := hide (room_below (uh HBB) (.slice none 0 0) (.int .i64 0))
      have HK2 : Hid (RR = no er) := by show _ = _; rw [uh HK, if_pos her]
      obtain ⟨r0, r1, z0, z1⟩ := uh HRD
      have hern : (er != 0) = true := by simpa using her
      clear HRD HK HBB HA
      go_wp2_with fail
      refine bodyPost_ret (v := .tuple #[.agg #[.slice none 0 0, .int .i64 0], .int .i64 er]) (by simp [results, Tryz.results127, go_sem, r0, r1]) rfl ?_
      show DoR RR w _ _
      rw [uh HK2]
      exact ⟨⟨_, rfl, ot_nil _ _⟩, uh HF⟩
end Go.Proofs.YtidhceebafmlkaaGreatDoor.Ca
