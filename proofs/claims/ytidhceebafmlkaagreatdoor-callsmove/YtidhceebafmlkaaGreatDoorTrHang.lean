import Derived.Test.YtidhceebafmlkaaGreatDoorTrPure
import Derived.Deep.CutBlock
import Derived.Deep.DeepCutAuto
namespace Go.Proofs.YtidhceebafmlkaaGreatDoor.Tr
open Go.RowKit Cu
structure Vs (w0 w : World) (N : Nat) (a : Option Addr) (n cap : Nat) (T : List Nat) : Prop where
  below : Below N w0 w
  bn : w.cell? ⟨N, 0, none⟩ = some (.slice a n cap)
  li : Li w (N + 1) n T
  bl : w.cell? ⟨N + 2, 0, none⟩ = some (.slice (some ⟨N + 1, 0, none⟩) n n)
  bv : w.cell? ⟨N + 3, 0, none⟩ = some (.func (.func 175) #[] #[.pointer (some ⟨N, 0, none⟩), .pointer (some ⟨N + 2, 0, none⟩), .pointer (some ⟨N + 3, 0, none⟩)])
  sz : N + 4 ≤ w.heap.size
theorem Vs.alloc {w0 w : World} {N : Nat} {a : Option Addr} {n cap : Nat} {T : List Nat} (h : Vs w0 w N a n cap T) (o : Obj) : Vs w0 (w.alloc o) N a n cap T := by
  have hs := h.sz
  have hb : Below w.heap.size w (w.alloc o) := (Below.refl _ _).alloc (Nat.le_refl _) _
  exact ⟨h.below.alloc (by omega) _, (hb.cell (p := ⟨N, 0, none⟩) (by show N < _; omega)).trans h.bn, h.li.below hb, (hb.cell (p := ⟨N + 2, 0, none⟩) (by show N + 2 < _; omega)).trans h.bl, (hb.cell (p := ⟨N + 3, 0, none⟩) (by show N + 3 < _; omega)).trans h.bv, by simp; omega⟩
theorem Vs.set {w0 w : World} {N : Nat} {a : Option Addr} {n cap : Nat} {T : List Nat} (h : Vs w0 w N a n cap T) (k : Nat) (x : Int) (hx : x = wr (T.count k + 1)) : Vs w0 (w.setCell ⟨N + 1, k, none⟩ (.int .i64 x)) N a n cap (k :: T) := by
  have hs := h.sz
  have hc : ∀ j, j ≠ N + 1 → (w.setCell ⟨N + 1, k, none⟩ (.int .i64 x)).cell? ⟨j, 0, none⟩ = w.cell? ⟨j, 0, none⟩ := fun j hj => by
    have e := heap_setCell_other w ⟨N + 1, k, none⟩ j (.int .i64 x) hj
    simp [World.cell?, e]
  exact ⟨h.below.setCell (p := ⟨N + 1, k, none⟩) (Nat.le_succ _) _, (hc _ (by omega)).trans h.bn, h.li.set k x hx, (hc _ (by omega)).trans h.bl, (hc _ (by omega)).trans h.bv, by simp; omega⟩
theorem goL_out (ns : List Nd) (vis : Nat → List Nat → Option (List Nat)) (dir : Nat) (e : En) (l : List En) (T : List Nat) (d : Nat) (h : e.node ≤ 1 ∨ (ns.length : Int) ≤ e.node) : goL ns vis dir (e :: l) T d = none := by
  unfold goL; rw [if_pos h]
theorem goL_none (ns : List Nd) (vis : Nat → List Nat → Option (List Nat)) (dir : Nat) (nm : ByteArray) (x : Nat) (l : List En) (T : List Nat) (d : Nat) (h1 : 1 < x) (h2 : x < ns.length) (h : (nd ns x).kind = 0) : goL ns vis dir (⟨nm, (x : Int)⟩ :: l) T d = none := by
  unfold goL; simp only [Int.toNat_natCast]; rw [if_neg (by omega), if_pos h]
theorem goL_file (ns : List Nd) (vis : Nat → List Nat → Option (List Nat)) (dir : Nat) (nm : ByteArray) (x : Nat) (l : List En) (T : List Nat) (d : Nat) (h1 : 1 < x) (h2 : x < ns.length) (h : (nd ns x).kind ≠ 0) (h' : (nd ns x).kind ≠ 2) : goL ns vis dir (⟨nm, (x : Int)⟩ :: l) T d = goL ns vis dir l (x :: T) d := by
  rw [goL.eq_2]; simp only [Int.toNat_natCast]; rw [if_neg (by omega), if_neg h, if_neg h']
theorem goL_dir_no (ns : List Nd) (vis : Nat → List Nat → Option (List Nat)) (dir : Nat) (nm : ByteArray) (x : Nat) (l : List En) (T : List Nat) (d : Nat) (h1 : 1 < x) (h2 : x < ns.length) (h : (nd ns x).kind = 2) (h' : 1 < (x :: T).count x ∨ (nd ns x).parent ≠ dir) : goL ns vis dir (⟨nm, (x : Int)⟩ :: l) T d = none := by
  rw [goL.eq_2]; simp only [Int.toNat_natCast]; rw [if_neg (by omega), if_neg (by rw [h]; decide), if_pos h, if_pos h']
theorem goL_dir (ns : List Nd) (vis : Nat → List Nat → Option (List Nat)) (dir : Nat) (nm : ByteArray) (x : Nat) (l : List En) (T : List Nat) (d : Nat) (h1 : 1 < x) (h2 : x < ns.length) (h : (nd ns x).kind = 2) (h' : ¬ (1 < (x :: T).count x ∨ (nd ns x).parent ≠ dir)) :
    goL ns vis dir (⟨nm, (x : Int)⟩ :: l) T d = match vis x (x :: T) with
      | none => none
      | some T' => goL ns vis dir l T' (d + 1) := by
  rw [goL.eq_2]; simp only [Int.toNat_natCast]; rw [if_neg (by omega), if_neg (by rw [h]; decide), if_pos h, if_neg h']
  cases vis x (x :: T) <;> rfl
theorem wr_succ64 (k : Nat) : wrap64 (Tr.wr k + 1) = Tr.wr (k + 1) := by
  unfold Tr.wr
  rw [IntWalk.i64_left, IntWalk.i64_left]
  unfold wrap64
  omega
def VisR (w0 : World) (N : Nat) (a : Option Addr) (n cap : Nat) (ns : List Nd) (r : Option (List Nat)) (e : Ending) (w' : World) : Prop :=
  (r = none ∧ e = .returned (.bool false) ∧ Below N w0 w') ∨ ∃ T', r = some T' ∧ e = .returned (.bool true) ∧ Vs w0 w' N a n cap T' ∧ Once ns T'
theorem en_drop (l : List En) (k : Nat) (h : k < l.length) : l.drop k = en l k :: l.drop (k + 1) := by
  rw [List.drop_eq_getElem_cons h]; simp [en, List.getD, List.getElem?_eq_getElem h]
theorem Nx.at0 {w w' : World} {b o : Nat} {n : Nd} {N : Nat} (h : Nx w b o n) (hN : N = w.heap.size) (hlt : b < w.heap.size) (hb : Below N w w') : Nx w' b o n := h.below hlt (by rw [← hN]; exact hb)
set_option maxRecDepth 100000 in
set_option maxHeartbeats 1000000 in
theorem visit_zero (w0 : World) (N : Nat) (a : Option Addr) (n cap : Nat) (ns : List Nd) (dir : Nat) (T : List Nat) (w : World) (hV : Vs w0 w N a n cap T) :
    Calls Tryz.prog 175 #[.int .i64 dir, .int .i64 33, .pointer (some ⟨N, 0, none⟩), .pointer (some ⟨N + 2, 0, none⟩), .pointer (some ⟨N + 3, 0, none⟩)] w fun e w' => VisR w0 N a n cap ns (visitP ns 0 dir T) e w' := by
  have hB := hide hV.below
  clear hV
  go_enter Tryz.func175, Tryz.ntmps175
  go_wp2
  go_ret
  exact .inl ⟨rfl, rfl, uh hB⟩
set_option maxRecDepth 100000 in
set_option maxHeartbeats 2000000 in
theorem visit_succ (w0 : World) (N b off : Nat) (n cap : Nat) (ns : List Nd) (hN : N = w0.heap.size) (hb : b < N) (hc : ∀ i, i < n → Nx w0 b (off + i * 10) (nd ns i)) (_hn : n ≤ 1000000) (hlen : ns.length = n) (hls : ∀ i, (nd ns i).list.length ≤ 1000000000)
    (f dp : Nat) (hdp : dp + (f + 1) = 33)
    (IH : ∀ dir T w, dir < n → Vs w0 w N (some ⟨b, off, none⟩) n cap T → Once ns T → Calls Tryz.prog 175 #[.int .i64 dir, .int .i64 ((dp : Int) + 1), .pointer (some ⟨N, 0, none⟩), .pointer (some ⟨N + 2, 0, none⟩), .pointer (some ⟨N + 3, 0, none⟩)] w fun e w' => VisR w0 N (some ⟨b, off, none⟩) n cap ns (visitP ns f dir T) e w')
    (dir : Nat) (T : List Nat) (w : World) (hdir : dir < n) (hV : Vs w0 w N (some ⟨b, off, none⟩) n cap T) (hO : Once ns T) :
    Calls Tryz.prog 175 #[.int .i64 dir, .int .i64 dp, .pointer (some ⟨N, 0, none⟩), .pointer (some ⟨N + 2, 0, none⟩), .pointer (some ⟨N + 3, 0, none⟩)] w fun e w' => VisR w0 N (some ⟨b, off, none⟩) n cap ns (visitP ns (f + 1) dir T) e w' := by
  have HC := hide hc
  have HI := hide IH
  have HLS := hide hls
  clear hc IH hls
  obtain ⟨r, hr⟩ : ∃ r, r = visitP ns (f + 1) dir T := ⟨_, rfl⟩
  rw [← hr]
  have HR : Hid (r = match goL ns (visitP ns f) dir (nd ns dir).list T 0 with
    | none => none
    | some (T', d) => if (nd ns dir).links = 2 + (d : Int) then some T' else none) := hr
  clear hr
  have hdp2 : (dp : Int) ≤ 32 := by omega
  have hdir' : (dir : Int) < (n : Int) := by omega
  obtain ⟨da, dc, la, lc, h10, -, heg⟩ := (uh HC dir hdir).at0 hN (by omega) hV.below
  have hll := uh HLS dir
  obtain ⟨L, hL⟩ : ∃ L, L = (nd ns dir).list := ⟨_, rfl⟩
  obtain ⟨lk, hlk⟩ : ∃ lk, lk = (nd ns dir).links := ⟨_, rfl⟩
  have c8 := h10.c8
  rw [← hL] at c8 heg hll HR
  rw [← hlk] at HR
  have hbn := hV.bn
  have hbN : b < N := hb
  obtain ⟨ll, hlle⟩ : ∃ ll, L.length = ll := ⟨_, rfl⟩
  rw [hlle] at c8 heg hll
  have HD : Hid (∀ W, Below N w0 W → W.cell? ⟨b, off + dir * 10 + 4, none⟩ = some (.int .i64 lk)) := fun W hW => by
    obtain ⟨_, _, _, _, q, -, -⟩ := (uh HC dir hdir).at0 hN (by omega) hW
    rw [hlk]; exact q.c4
  have HE : Hid (∀ W k, Below N w0 W → k < ll → ∃ eb eo, la = some ⟨eb, eo, none⟩ ∧ E2 W eb (eo + k * 2) (en L k)) := fun W k hW hk => by
    obtain ⟨da', dc', la', lc', q, -, qe⟩ := (uh HC dir hdir).at0 hN (by omega) hW
    obtain ⟨_, _, la0, lc0, q0, -, -⟩ := (uh HC dir hdir)
    have e1 : Value.slice la' (nd ns dir).list.length lc' = Value.slice la0 (nd ns dir).list.length lc0 := by
      have h1 := q.c8
      have h2 := (hW.cell (p := ⟨b, off + dir * 10 + 8, none⟩) hb).trans q0.c8
      rw [h1] at h2; simpa using h2
    have e2 : Value.slice la ll lc = Value.slice la0 (nd ns dir).list.length lc0 := by
      have h2 := (hV.below.cell (p := ⟨b, off + dir * 10 + 8, none⟩) hb).trans q0.c8
      rw [c8] at h2; simpa using h2
    have e3 : la = la' := by
      injection e1 with x1; injection e2 with x2; rw [x1, x2]
    rw [← hL] at qe
    rw [e3]
    rcases qe.cells with h0 | ⟨eb, eo, h1, h2, h3⟩
    · omega
    · exact ⟨eb, eo, h1, h3 k (by omega)⟩
  have HX : Hid (∀ W x, Below N w0 W → x < n → W.cell? ⟨b, off + x * 10, none⟩ = some (.int .u8 (nd ns x).kind.toNat) ∧ W.cell? ⟨b, off + x * 10 + 9, none⟩ = some (.int .i64 (nd ns x).parent)) := fun W x hW hx => by
    obtain ⟨_, _, _, _, q, -, -⟩ := (uh HC x hx).at0 hN (by omega) hW
    exact ⟨q.c0, q.c9⟩
  clear h10 heg hL hlk hN HC
  have HV := hide hV
  clear hV
  go_enter Tryz.func175, Tryz.ntmps175
  go_wp2
  go_loopw [8, 19] (fun x i wr => ∃ (k d : Nat) (Tk : List Nat), k ≤ ll ∧ d ≤ k ∧ x = .int .i64 d ∧ i = .int .i64 k ∧ Hid (goL ns (visitP ns f) dir (L.drop k) Tk d = goL ns (visitP ns f) dir L T 0) ∧ Hid (Vs w0 wr N (some ⟨b, off, none⟩) n cap Tk) ∧ Hid (Once ns Tk)) (fun _ i _ => ll - (intOf i).toNat)
  case atStart => exact ⟨0, 0, T, Nat.zero_le _, Nat.le_refl _, rfl, rfl, rfl, HV, hO⟩
  case round =>
    clear HV hO hbn c8
    obtain ⟨k, d, Tk, hk, hdk, rfl, rfl, hgo, hV, hO⟩ := hrel
    have hsz := (uh hV).sz
    by_cases hlt : k < ll
    · have hlt' : (k : Int) < (ll : Int) := by omega
      obtain ⟨eb, eo, rfl, he2⟩ := uh HE wr k (uh hV).below hlt
      have hd := hide (en_drop L k (by omega))
      rw [uh hd] at hgo
      obtain ⟨e, hee⟩ : ∃ e, e = en L k := ⟨_, rfl⟩
      rw [← hee] at hgo he2
      clear hd hee
      obtain ⟨nm, no⟩ := e
      have e0 := he2.c0
      have e1 := he2.c1
      simp only at e0 e1
      clear he2
      have hbn := (uh hV).bn
      have hbl := (uh hV).bl
      have hNw : N < wr.heap.size := by omega
      have hNw2 : N + 2 < wr.heap.size := by omega
      have hNw1 : N + 1 < wr.heap.size := by omega
      have HA : Hid (∀ o, Below N w0 (wr.alloc o)) := fun o => ((uh hV).alloc o).below
      have hbw : b < wr.heap.size := by omega
      by_cases q1 : no ≤ 1
      · have HF : Hid (r = none) := hide ((uh HR).trans (by rw [← uh hgo, goL_out _ _ _ _ _ _ _ (.inl q1)]))
        clear HR hgo HE HX HI HD
        go_wp2
        go_ret
        exact .inl ⟨uh HF, rfl, uh HA _⟩
      by_cases q2 : (n : Int) ≤ no
      · have HF : Hid (r = none) := hide ((uh HR).trans (by rw [← uh hgo, goL_out _ _ _ _ _ _ _ (.inr (by rw [hlen]; exact q2))]))
        clear HR hgo HE HX HI HD
        go_wp2
        go_ret
        exact .inl ⟨uh HF, rfl, uh HA _⟩
      obtain ⟨x, rfl⟩ : ∃ x : Nat, no = (x : Int) := ⟨no.toNat, by omega⟩
      have hx1 : 1 < x := by omega
      have hxn : x < n := by omega
      have hcl := (uh hV).li.cell x hxn
      have hfz := (uh hV).li.frozen x
      obtain ⟨z, hz⟩ : ∃ z, z = Tr.wr (Tk.count x) := ⟨_, rfl⟩
      rw [← hz] at hcl
      obtain ⟨W1, hW1⟩ : ∃ W1, W1 = (wr.setCell ⟨N + 1, x, none⟩ (.int .i64 (wrap64 (z + 1)))).alloc (.cells #[.string nm, .int .i64 x] 116) := ⟨_, rfl⟩
      have hV1 : Hid (Vs w0 W1 N (some ⟨b, off, none⟩) n cap (x :: Tk)) := by
        rw [hW1]; exact ((uh hV).set x _ (by rw [hz]; exact wr_succ64 _)).alloc _
      have hP1 : W1.cell? ⟨wr.heap.size, 1, none⟩ = some (.int .i64 x) := by
        have q := heap_alloc_new (wr.setCell ⟨N + 1, x, none⟩ (.int .i64 (wrap64 (z + 1)))) (.cells #[.string nm, .int .i64 x] 116)
        rw [← hW1, World.size_setCell] at q
        rw [cell_of_row _ _ _ _ _ _ q]; rfl
      obtain ⟨hk0, hp9⟩ := uh HX W1 x (uh hV1).below hxn
      have hbn1 := (uh hV1).bn
      have hbl1 := (uh hV1).bl
      have hbv1 := (uh hV1).bv
      have hcl1 := (uh hV1).li.cell x hxn
      have HB1 := hide (uh hV1).below
      have hcz : Tr.wr ((x :: Tk).count x) = wrap64 (z + 1) := by rw [hz, wr_succ64, List.count_cons_self]
      have HZ := hide hz
      clear hz
      clear HE HA
      have hq1 : ¬ (x : Int) ≤ 1 := q1
      have hq2 : ¬ (n : Int) ≤ (x : Int) := q2
      go_upto_region 10 with fail
      rw [← hW1]
      obtain ⟨P, hP⟩ : ∃ P, P = wr.heap.size := ⟨_, rfl⟩
      rw [← hP] at hP1 ⊢
      clear hW1 hcl hfz hbn hbl e0 e1 hNw hNw1 hNw2 hbw hsz hP hV
      obtain ⟨m, hm⟩ : ∃ m, m = nd ns x := ⟨_, rfl⟩
      rw [← hm] at hk0 hp9
      have hxl : x < ns.length := by omega
      by_cases b1 : m.kind = 0
      · have HF : Hid (r = none) := hide ((uh HR).trans (by rw [← uh hgo, goL_none _ _ _ _ _ _ _ _ hx1 hxl (by rw [← hm]; exact b1)]))
        have hk0' : W1.cell? ⟨b, off + x * 10, none⟩ = some (.int .u8 0) := by rw [hk0, b1]; rfl
        clear HR hgo HX HI HD hk0 hm
        go_wp2
        go_ret
        exact .inl ⟨uh HF, rfl, uh HB1⟩
      have b2 : ¬ (m.kind.toNat : Int) = 0 := fun e => b1 (UInt8.toNat_inj.1 (by simpa using e))
      by_cases b3 : m.kind = 2
      case neg =>
        have b4 : ¬ (m.kind.toNat : Int) = 2 := fun e => b3 (UInt8.toNat_inj.1 (by show m.kind.toNat = 2; omega))
        have hgo' : Hid (goL ns (visitP ns f) dir (L.drop (k + 1)) (x :: Tk) d = goL ns (visitP ns f) dir L T 0) := by
          rw [← uh hgo, goL_file _ _ _ _ _ _ _ _ hx1 hxl (by rw [← hm]; exact b1) (by rw [← hm]; exact b3)]; exact rfl
        have hO1 : Hid (Once ns (x :: Tk)) := by
          intro y hy
          by_cases ey : y = x
          · subst ey; exact absurd hy (by rw [← hm]; exact b3)
          · rw [List.count_cons_of_ne (Ne.symm ey)]; exact uh hO y hy
        generalize m.kind.toNat = kn at *
        clear HR hgo HX HI HD hm hO HB1
        go_wp2
        go_roundw
        case rel => exact ⟨k + 1, d, x :: Tk, by omega, by omega, rfl, by go_num, hgo', hV1, hO1⟩
        case measure => simp [intOf]; omega
      have hk2 : W1.cell? ⟨b, off + x * 10, none⟩ = some (.int .u8 2) := by rw [hk0, b3]; rfl
      have hOx := uh hO x (by rw [← hm]; exact b3)
      obtain ⟨ct, hct⟩ : ∃ ct, ct = (x :: Tk).count x := ⟨_, rfl⟩
      have hct2 : ct ≤ 2 ∧ 1 ≤ ct := by rw [hct, List.count_cons_self]; omega
      rw [← hct, wr_small _ (by omega)] at hcl1
      have hmp : m.parent = (nd ns x).parent := by rw [hm]
      have hm2 : (nd ns x).kind = 2 := by rw [← hm]; exact b3
      generalize m.parent = pa at *
      clear hk0 b1 b2 b3 hm hcz HX
      by_cases b5 : ct = 2
      · have HF : Hid (r = none) := hide ((uh HR).trans (by rw [← uh hgo, goL_dir_no _ _ _ _ _ _ _ _ hx1 hxl hm2 (.inl (by rw [← hct]; omega))]))
        have hcl2 : W1.cell? ⟨N + 1, x, none⟩ = some (.int .i64 2) := by rw [hcl1, b5]; rfl
        clear HR hgo HI HD hcl1 hct b5 hct2 hOx
        go_wp2
        go_ret
        exact .inl ⟨uh HF, rfl, uh HB1⟩
      have hcl2 : W1.cell? ⟨N + 1, x, none⟩ = some (.int .i64 1) := by rw [hcl1, show ct = 1 by omega]; rfl
      have HCT : Hid ((x :: Tk).count x = 1) := hide (by omega)
      clear hcl1 hct hct2 b5 hOx
      by_cases b6 : pa = (dir : Int)
      case neg =>
        have HF : Hid (r = none) := hide ((uh HR).trans (by rw [← uh hgo, goL_dir_no _ _ _ _ _ _ _ _ hx1 hxl hm2 (.inr (by rw [← hmp]; exact b6))]))
        have b7 : (pa != (dir : Int)) = true := by simp [b6]
        clear HR hgo HI HD b6 hmp
        go_wp2
        go_ret
        exact .inl ⟨uh HF, rfl, uh HB1⟩
      subst b6
      have hgd : Hid (goL ns (visitP ns f) dir L T 0 = match visitP ns f x (x :: Tk) with
          | none => none
          | some T' => goL ns (visitP ns f) dir (L.drop (k + 1)) T' (d + 1)) := by
        rw [← uh hgo, goL_dir _ _ _ _ _ _ _ _ hx1 hxl hm2 (by rw [uh HCT, ← hmp]; omega)]; exact rfl
      have hO1 : Once ns (x :: Tk) := by
        intro y hy
        by_cases ey : y = x
        · subst ey; rw [uh HCT]; exact Nat.le_refl _
        · rw [List.count_cons_of_ne (Ne.symm ey)]; exact uh hO y hy
      have HI1 := hide (uh HI x (x :: Tk) W1 hxn (uh hV1) hO1)
      clear HI hO1 hgo hmp hm2 hO HCT
      go_wp2_with fail
      refine (uh HI1).mono ?_
      rintro ee W2 (⟨hr2, rfl, hB2⟩ | ⟨T', hr2, rfl, hV2, hO2⟩)
      · have HF : Hid (r = none) := hide ((uh HR).trans (by rw [uh hgd, hr2]))
        have HB2 := hide hB2
        clear HR hgd hr2 HI1 hB2 hV1
        go_wp2
        go_ret
        exact .inl ⟨uh HF, rfl, uh HB2⟩
      · have hgo' : Hid (goL ns (visitP ns f) dir (L.drop (k + 1)) T' (d + 1) = goL ns (visitP ns f) dir L T 0) := by
          rw [uh hgd, hr2]; exact rfl
        have HV2 := hide hV2
        have HO2 := hide hO2
        clear hgd hr2 HI1 hV2 hV1 hO2 HB1
        go_wp2
        go_roundw
        case rel => exact ⟨k + 1, d + 1, T', by omega, by omega, by go_num, by go_num, hgo', HV2, HO2⟩
        case measure => simp [intOf]; omega
    · have e : k = ll := by omega
      subst e
      have hbn := (uh hV).bn
      have hlk := uh HD wr (uh hV).below
      have hg : goL ns (visitP ns f) dir L T 0 = some (Tk, d) := by
        rw [← uh hgo, List.drop_of_length_le (by omega)]; rfl
      have HF : Hid (r = if lk = 2 + (d : Int) then some Tk else none) := hide ((uh HR).trans (by rw [hg]))
      clear hg HR hgo HE HX HI HD
      by_cases b8 : lk = 2 + (d : Int)
      · have HF2 := hide ((uh HF).trans (if_pos b8))
        have b9 : (lk == 2 + (d : Int)) = true := by simp [b8]
        clear HF
        have HV2 := hV
        clear hV
        go_wp2
        go_ret
        refine .inr ⟨Tk, uh HF2, ?_, uh HV2, uh hO⟩
        simp
      · have HF2 := hide ((uh HF).trans (if_neg b8))
        have HB2 := hide (uh hV).below
        clear HF hV
        go_wp2
        go_ret
        refine .inl ⟨uh HF2, ?_, uh HB2⟩
        simp [b8]
end Go.Proofs.YtidhceebafmlkaaGreatDoor.Tr
