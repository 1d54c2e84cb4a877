import Derived.Test.YtidhceebafmlkaaGreatDoorCaStore2
import Derived.Deep.RegionHeld3
import Derived.Deep.RegionWith
import Derived.Deep.DeepCutAuto
import Derived.Deep.CutBlock
import Derived.Outline
namespace Go.Proofs.YtidhceebafmlkaaGreatDoor.Ca
open Go.RowKit Cu Tr Pm Pt
abbrev sg (g n c : Nat) : Value := .slice (some ⟨g, 0, none⟩) n c
def updL (l : List Nv) (i : Nat) (f : Nd → Nd) : List Nv := l.set i (f (l.getD i zNv).1, (l.getD i zNv).2)
theorem updL_len (l : List Nv) (i : Nat) (f : Nd → Nd) : (updL l i f).length = l.length := List.length_set
theorem updL_fst (l : List Nv) (i : Nat) (hi : i < l.length) (f : Nd → Nd) : (updL l i f).map (·.1) = upd (l.map (·.1)) i f := upd_fst l i hi f _
structure Dp (w0 W : World) (B D : Nat) (now : Int) (v : Value) (l : List Nv) (p : Pl) : Prop where
  df : Df W B D now v l
  box : W.heap[w0.heap.size]? = some (.cells (pv p) 99)
  below : Below B w0 W
theorem Dp.step {w0 W W' : World} {B D : Nat} {now : Int} {v : Value} {l : List Nv} {p : Pl} (h : Dp w0 W B D now v l p) (hb : Below W.heap.size W W') (hB : B ≤ w0.heap.size) : Dp w0 W' B D now v l p :=
  ⟨h.df.below hb, (hb.block _ (Array.getElem?_eq_some_iff.1 h.box).1).trans h.box, h.below.trans (hb.mono (Nat.le_trans hB h.below.size))⟩
theorem Dp.cells {w0 W : World} {B D : Nat} {now : Int} {v : Value} {l : List Nv} {d : Int} {nm : ByteArray} {no : Int} {bd : Bool} (h : Dp w0 W B D now v l ⟨d, nm, no, bd⟩) :
    W.cell? ⟨D, 0, none⟩ = some v ∧ W.cell? ⟨D, 1, none⟩ = some (.int .i64 now) ∧ W.cell? ⟨w0.heap.size, 0, none⟩ = some (.int .i64 d) ∧ W.cell? ⟨w0.heap.size, 1, none⟩ = some (.string nm) ∧ W.cell? ⟨w0.heap.size, 2, none⟩ = some (.int .i64 no) ∧ W.cell? ⟨w0.heap.size, 3, none⟩ = some (.bool bd) := by
  obtain ⟨a, b, _⟩ := h.df.cells
  refine ⟨a, b, ?_, ?_, ?_, ?_⟩
  all_goals (rw [cell_of_row _ _ _ _ _ _ h.box]; rfl)
theorem Dp.at {w0 W : World} {B D g n c : Nat} {now : Int} {l : List Nv} {p : Pl} (h : Dp w0 W B D now (sg g n c) l p) (d : Nat) (hd : d < l.length) {md : Nd} {dv lv : Value} (hx : l.getD d zNv = (md, dv, lv)) :
    W.cell? ⟨g, d * 10, none⟩ = some (.int .u8 md.kind.toNat) ∧ W.cell? ⟨g, d * 10 + 4, none⟩ = some (.int .i64 md.links) ∧ W.cell? ⟨g, d * 10 + 5, none⟩ = some (.int .i64 md.time) ∧ W.cell? ⟨g, d * 10 + 8, none⟩ = some lv ∧ W.cell? ⟨g, d * 10 + 9, none⟩ = some (.int .i64 md.parent) := by
  have q : ∀ j, j < 10 → W.cell? ⟨g, d * 10 + j, none⟩ = (nc md dv lv)[j]? := fun j hj => by
    have := h.df.cell d j hd hj
    rw [hx] at this
    exact this
  exact ⟨q 0 (by omega), q 4 (by omega), q 5 (by omega), q 8 (by omega), q 9 (by omega)⟩
theorem Dp.fz {w0 W : World} {B D g n c : Nat} {now : Int} {l : List Nv} {p : Pl} (h : Dp w0 W B D now (sg g n c) l p) (j : Nat) : W.frozen? ⟨g, j, none⟩ = false := h.df.frozen j
theorem Dp.upd {w0 W : World} {B D g n c : Nat} {now : Int} {l : List Nv} {p : Pl} (h : Dp w0 W B D now (sg g n c) l p) (i j : Nat) (u : Value) (f : Nd → Nd) (hi : i < l.length) (hj : j < 10)
    (he : ∀ m dv lv, nc (f m) dv lv = (nc m dv lv).set j u ∨ l.getD i zNv ≠ (m, dv, lv)) (hd : ∀ m, (f m).data = m.data) (hls : ∀ m, (f m).list = m.list) :
    Dp w0 (W.setCell ⟨g, i * 10 + j, none⟩ u) B D now (sg g n c) (updL l i f) p := by
  have hne := h.df.ne
  obtain ⟨cur, hcur⟩ := own_type h.df.row (k := g) rfl
  refine ⟨h.df.num i j u (f (l.getD i zNv).1) hi hj ?_ (hd _) (hls _), ?_, h.below.setCell (p := ⟨g, _, none⟩) hne.2.1 _⟩
  · rcases he (l.getD i zNv).1 (l.getD i zNv).2.1 (l.getD i zNv).2.2 with q | q
    · exact q
    · exact absurd rfl q
  · rw [heap_setCell_other _ ⟨g, _, none⟩ _ _ (obj_ne h.box hcur (by decide))]
    exact h.box
theorem dp_first {w : World} {B D : Nat} {now : Int} {v : Value} {l : List Nv} (h : Df w B D now v l) (p : Pl) : Dp w (w.alloc (.cells (pv p) 99)) B D now v l p :=
  ⟨h.below ((Below.refl _ _).alloc (Nat.le_refl _) _), heap_alloc_new w _, (Below.refl _ _).alloc (by have := h.hD; have := h.size; omega) _⟩
theorem hide_of_eg {w : World} {B : Nat} {x : Nv} (h : Hd B w x) : ∃ la lc, x.2.2 = .slice la x.1.list.length lc ∧ Eg w la x.1.list.length lc x.1.list := by
  obtain ⟨da, dc, la, lc, q1, q2, q3, q4⟩ := ox_of h
  exact ⟨la, lc, q2, q4⟩
theorem Dp.relist {w0 W w' : World} {B D g n c : Nat} {now : Int} {l : List Nv} {p : Pl} (h : Dp w0 W B D now (sg g n c) l p) (d : Nat) (hd : d < l.length) {md : Nd} {dv lv : Value} (hx : l.getD d zNv = (md, dv, lv)) {v' : Value} {es : List En} (hR : RowE B v' es w')
    (hG : W.grownBy w' lv.ownBlock) (hat : v'.ownBlock = lv.ownBlock ∨ ∃ k, v'.ownBlock = some k ∧ W.heap.size ≤ k) (hB : B ≤ w0.heap.size) :
    Dp w0 (w'.setCell ⟨g, d * 10 + 8, none⟩ v') B D now (sg g n c) (l.set d ({ md with list := es }, dv, v')) p ∧ w'.cell? ⟨g, d * 10 + 8, none⟩ = some lv ∧ w'.frozen? ⟨g, d * 10 + 8, none⟩ = false := by
  have q := h.df.relist (w' := w') d hd hR (by rw [hx]; exact hG) (by rw [hx]; exact hat)
  rw [hx] at q
  obtain ⟨cur, hcur⟩ := own_type h.df.row (k := g) rfl
  have hdd := h.df.hd d hd
  rw [hx] at hdd
  have ne : ∀ (k : Nat) (c : Array Value) (e : TypeId), W.heap[k]? = some (.cells c e (0, 0)) → e ≠ 116 → some k ≠ lv.ownBlock := fun k c e hk he hq => by
    obtain ⟨cur', hc'⟩ := own_type hdd.2 (k := k) hq.symm
    rw [hk] at hc'
    injection hc' with hc'
    injection hc' with _ hc' _
    exact he hc'
  have kg : w'.heap[g]? = W.heap[g]? := hG.block g (Array.getElem?_eq_some_iff.1 hcur).1 (ne g _ _ hcur (by decide))
  have kP : w'.heap[w0.heap.size]? = W.heap[w0.heap.size]? := hG.block _ (Array.getElem?_eq_some_iff.1 h.box).1 (ne _ _ _ h.box (by decide))
  have hb : Below B W w' := grown_below hG (fun k hk => (hdd.2.lt k hk).1) (Nat.le_trans hB h.below.size)
  refine ⟨⟨q, ?_, (h.below.trans hb).setCell (p := ⟨g, _, none⟩) h.df.ne.2.1 _⟩, ?_, ?_⟩
  · rw [heap_setCell_other _ ⟨g, _, none⟩ _ _ (obj_ne h.box hcur (by decide)), kP]
    exact h.box
  · rw [World.cell?_of_block (a := ⟨g, d * 10 + 8, none⟩) kg]
    exact (h.at d hd hx).2.2.2.1
  · rw [World.frozen?_of_block (a := ⟨g, d * 10 + 8, none⟩) kg]
    exact h.fz _
theorem updL_getD (l : List Nv) (i k : Nat) (f : Nd → Nd) : (updL l i f).getD k zNv = if i = k ∧ k < l.length then (f (l.getD i zNv).1, (l.getD i zNv).2) else l.getD k zNv := by
  unfold updL
  by_cases hk : k < l.length
  · by_cases e : i = k
    · subst e
      rw [if_pos ⟨rfl, hk⟩]
      simp [List.getD, hk]
    · rw [if_neg (fun h => e h.1)]
      simp [List.getD, List.getElem?_set_ne e]
  · rw [if_neg (fun h => hk h.2)]
    simp [List.getD, hk]
theorem updL_links (l : List Nv) (i k : Nat) (f : Nd → Nd) (hf : ∀ x, (f x).links = x.links) : ((updL l i f).getD k zNv).1.links = (l.getD k zNv).1.links := by
  rw [updL_getD]
  split
  · rename_i h; rw [h.1]; exact hf _
  · rfl
theorem listD_eq {now : Int} {ns : List Nd} {d m : Nat} {s : ByteArray} {md : Nd} (h : nd ns d = md) : listD now ns d s m =
    if (nd (upd (upd ns d fun x => { x with list := insE md.list (posE md.list s) ⟨s, (m : Int)⟩ }) d fun x => { x with time := now }) m).kind = 2
    then upd (upd (upd (upd ns d fun x => { x with list := insE md.list (posE md.list s) ⟨s, (m : Int)⟩ }) d fun x => { x with time := now }) m fun x => { x with parent := (d : Int) }) d fun x => { x with links := x.links + 1 }
    else upd (upd ns d fun x => { x with list := insE md.list (posE md.list s) ⟨s, (m : Int)⟩ }) d fun x => { x with time := now } := by
  have e : upd ns d (fun x => { x with list := insE x.list (posE x.list s) ⟨s, (m : Int)⟩ }) = upd ns d fun x => { x with list := insE md.list (posE md.list s) ⟨s, (m : Int)⟩ } := by
    unfold upd; rw [h]
  unfold listD
  simp only [e]
theorem unlistD_eq {now : Int} {ns : List Nd} {d m : Nat} {s : ByteArray} {md : Nd} {es : List En} (h : nd ns d = md) (he : es = if hasE md.list s then delE md.list (posE md.list s) else md.list) : unlistD now ns d s m =
    if (nd (upd (upd ns d fun x => { x with list := es }) d fun x => { x with time := now }) m).kind = 2
    then upd (upd (upd ns d fun x => { x with list := es }) d fun x => { x with time := now }) d fun x => { x with links := x.links - 1 }
    else upd (upd ns d fun x => { x with list := es }) d fun x => { x with time := now } := by
  have e : upd ns d (fun x => { x with list := if hasE x.list s then delE x.list (posE x.list s) else x.list }) = upd ns d fun x => { x with list := es } := by
    unfold upd; rw [h, he]
  unfold unlistD
  simp only [e]
theorem al_b (w : World) (o : Obj) : Below w.heap.size w (w.alloc o) := (Below.refl _ _).alloc (Nat.le_refl _) _
set_option maxRecDepth 100000 in
set_option maxHeartbeats 4000000 in
theorem list_any (B D : Nat) (now : Int) (v : Value) (l : List Nv) (d m : Nat) (nm : ByteArray) (no : Int) (bd : Bool) (w : World) (h : Df w B D now v l) (hB : B ≤ w.heap.size) (hd : d < l.length) (hm : m < l.length) (hr : Rises (l.getD d zNv).1.list) (hll : (l.getD d zNv).1.list.length ≤ 100000) (hlk : -1000000000 ≤ (l.getD d zNv).1.links ∧ (l.getD d zNv).1.links ≤ 1000000000) :
    Calls Tryz.prog 202 #[.pointer (some ⟨D, 0, none⟩), .agg (pv ⟨(d : Int), nm, no, bd⟩), .int .i64 m] w fun e w' => e = .returned (.tuple #[]) ∧ (∃ l', Df w' B D now v l' ∧ l'.map (·.1) = listD now (l.map (·.1)) d nm m) ∧ Below B w w' := by
  obtain ⟨md, dv, la, lc, hx, heg⟩ : ∃ md dv la lc, l.getD d zNv = (md, dv, .slice la md.list.length lc) ∧ Eg w la md.list.length lc md.list := by
    obtain ⟨la, lc, h1, h2⟩ := hide_of_eg (h.hd d hd)
    exact ⟨(l.getD d zNv).1, (l.getD d zNv).2.1, la, lc, by rw [← h1], h2⟩
  rw [hx] at hr hll hlk
  simp only at hr hll hlk
  obtain ⟨g, c, hvg⟩ := h.at (by omega)
  obtain ⟨n, hn⟩ : ∃ n, n = l.length := ⟨_, rfl⟩
  rw [← hn] at hvg
  subst hvg
  have hdn : (d : Int) < (n : Int) := by omega
  have hmn : (m : Int) < (n : Int) := by omega
  have HDL : Hid (d < l.length) := hd
  have HML : Hid (m < l.length) := hm
  have HX := hide hx
  have HB := hide hB
  have HRI := hide hr
  have HPL : Hid (∀ W, Dp w W B D now (sg g n c) l ⟨(d : Int), nm, no, bd⟩ → Calls Tryz.prog 248 #[.slice la md.list.length lc, .string nm] W fun e w' => e = .returned (.tuple #[.int .i64 (posE md.list nm), .bool (hasE md.list nm)]) ∧ Below W.heap.size W w') := fun W hW => by
    obtain ⟨la', lc', h1, h2⟩ := hide_of_eg (hW.df.hd d hd)
    rw [hx] at h1 h2
    simp only at h1 h2
    injection h1 with h1 _ h3
    subst h1 h3
    exact place_any la _ lc md.list nm W h2 hr (by omega)
  have HIN : Hid (∀ W W' q, q = W.heap.size → W' = W.alloc (.cells #[.string nm, .int .i64 m] 116) → Dp w W B D now (sg g n c) l ⟨(d : Int), nm, no, bd⟩ → Calls Tryz.prog 249 #[.slice la md.list.length lc, .int .i64 (posE md.list nm), .slice (some ⟨q, 0, none⟩) 1 1] W' fun e w' => ∃ a' n' c', e = .returned (.slice a' n' c') ∧ Dp w (w'.setCell ⟨g, d * 10 + 8, none⟩ (.slice a' n' c')) B D now (sg g n c) (l.set d ({ md with list := insE md.list (posE md.list nm) ⟨nm, (m : Int)⟩ }, dv, .slice a' n' c')) ⟨(d : Int), nm, no, bd⟩ ∧ w'.cell? ⟨g, d * 10 + 8, none⟩ = some (.slice la md.list.length lc) ∧ w'.frozen? ⟨g, d * 10 + 8, none⟩ = false ∧ w'.cell? ⟨w.heap.size, 1, none⟩ = some (.string nm)) := fun W W' q hq hW' hW => by
    subst hq hW'
    have hdd := hW.df.hd d hd
    rw [hx] at hdd
    have hb := al_b W (.cells #[.string nm, .int .i64 m] 116)
    have hpos : posE md.list nm ≤ md.list.length := by unfold posE; exact (List.takeWhile_prefix _).length_le
    have hvb : (Value.slice la md.list.length lc).ownBlock ≠ some W.heap.size := fun e => by have := (hdd.2.lt _ e).2; omega
    refine (insert_any B _ md.list (posE md.list nm) ⟨nm, (m : Int)⟩ W.heap.size _ (own_below hdd.2 hb) hpos (by omega) (by have := hW.below.size; have := hb.size; omega) (heap_alloc_new W _) hvb).mono ?_
    rintro e w' ⟨v', rfl, hR, hG, hat⟩
    obtain ⟨a', c', rfl⟩ := own_sl hR
    refine ⟨a', _, c', rfl, ?_⟩
    have hWa := hW.step hb hB
    have q := hWa.relist d hd hx hR hG (by
      rcases hat with hat | hat
      · exact .inl hat
      · exact .inr ⟨_, hat, Nat.le_refl _⟩) hB
    refine ⟨q.1, q.2.1, q.2.2, ?_⟩
    have q2 := q.1.cells.2.2.2.1
    rwa [World.cell?_setCell_far _ _ _ _ (fun e => by
      obtain ⟨cur, hcur⟩ := own_type hWa.df.row (k := g) rfl
      exact obj_ne hWa.box hcur (by decide) e.symm)] at q2
  have HD0 := hide (dp_first h ⟨(d : Int), nm, no, bd⟩)
  have HMAP : Hid (∀ (es : List En) (lv : Value), (l.set d ({ md with list := es }, dv, lv)).map (·.1) = upd (l.map (·.1)) d fun x => { x with list := es }) := fun es lv => by
    rw [set_fst, upd, ← getD_fst l d hd, hx]
  have HND : Hid (nd (l.map (·.1)) d = md) := by rw [← getD_fst l d hd, hx]; exact rfl
  obtain ⟨cD0, cD1, cp0, cp1, cp2, cp3⟩ := (uh HD0).cells
  clear h hr hll hx heg hB hd hm hn
  unfold pv
  simp only
  go_enter Tryz.func202, Tryz.ntmps202
  go_wp2_with fail
  go_quiet (fail)
  clear cD0 cD1 cp0 cp1 cp2 cp3
  obtain ⟨W1, hW1⟩ : ∃ W1, W1 = (w.alloc (.cells #[.int .i64 d, .string nm, .int .i64 no, .bool bd] 99)).drewN nq := ⟨_, rfl⟩
  have HD1' : Dp w W1 B D now (sg g n c) l ⟨(d : Int), nm, no, bd⟩ := by rw [hW1]; exact (uh HD0).step (below_drew _ nq) (uh HB)
  have HD1 : Hid (Dp w W1.drew B D now (sg g n c) l ⟨(d : Int), nm, no, bd⟩) := HD1'.step (below_drew _ 1) (uh HB)
  have HW1 := hide hW1
  clear hW1 HD1' HD0
  go_wp2_with fail
  rw [← uh HW1]
  refine wp_region_held_drew (S := (fun w' => Dp w w' B D now (sg g n c) l ⟨(d : Int), nm, no, bd⟩)) (by kernel_rfl) (uh HD1) (fun hHeld => ?_)
  refine tk 0 rfl (v := ?v1) (.inl ⟨by rfl, ?hy1⟩) ?rest1
  case hy1 => intro w hSw; obtain ⟨sD0, sD1, sp0, sp1, sp2, sp3⟩ := Dp.cells hSw; obtain ⟨s0, s4, s5, s8, s9⟩ := Dp.at hSw d (uh HDL) (uh HX); go_simp; try with_reducible rfl
  try simp only [pS]
  refine tk 1 rfl (v := ?v2) (.inl ⟨by rfl, ?hy2⟩) ?rest2
  case hy2 => intro w hSw; obtain ⟨sD0, sD1, sp0, sp1, sp2, sp3⟩ := Dp.cells hSw; obtain ⟨s0, s4, s5, s8, s9⟩ := Dp.at hSw d (uh HDL) (uh HX); go_simp; try with_reducible rfl
  try simp only [pS]
  refine tk 2 rfl (v := ?v3) (.inl ⟨by rfl, ?hy3⟩) ?rest3
  case hy3 => intro w hSw; obtain ⟨sD0, sD1, sp0, sp1, sp2, sp3⟩ := Dp.cells hSw; obtain ⟨s0, s4, s5, s8, s9⟩ := Dp.at hSw d (uh HDL) (uh HX); go_simp; try with_reducible rfl
  try simp only [pS]
  refine tk 3 rfl (v := ?v4) (.inl ⟨by rfl, ?hy4⟩) ?rest4
  case hy4 => intro w hSw; obtain ⟨sD0, sD1, sp0, sp1, sp2, sp3⟩ := Dp.cells hSw; obtain ⟨s0, s4, s5, s8, s9⟩ := Dp.at hSw d (uh HDL) (uh HX); go_simp; try with_reducible rfl
  try simp only [pS]
  refine tk 4 rfl (v := ?v5) (.inl ⟨by rfl, ?hy5⟩) ?rest5
  case hy5 => intro w hSw; obtain ⟨sD0, sD1, sp0, sp1, sp2, sp3⟩ := Dp.cells hSw; obtain ⟨s0, s4, s5, s8, s9⟩ := Dp.at hSw d (uh HDL) (uh HX); go_simp; try with_reducible rfl
  try simp only [pS]
  refine tk 5 rfl (v := ?v6) (.inl ⟨by rfl, ?hy6⟩) ?rest6
  case hy6 => intro w hSw; obtain ⟨sD0, sD1, sp0, sp1, sp2, sp3⟩ := Dp.cells hSw; obtain ⟨s0, s4, s5, s8, s9⟩ := Dp.at hSw d (uh HDL) (uh HX); go_simp; try with_reducible rfl
  try simp only [pS]
  refine wpAnyH_ready (rs := [6]) (by kernel_rfl) (by simp) ?_
  refine rc rfl fun K hK => ?_
  go_simp
  refine (uh HPL _ (uh HD1)).mono ?_; rintro e w1 ⟨rfl, hb1⟩; have HD2 := hide ((uh HD1).step hb1 (uh HB)); clear hb1
  go_wp2_with fail
  refine hK.out _ _ (by first | exact (uh HD2) | assumption | (dsimp only; assumption)) (fun hHeld2 => ?_)
  clear hK K
  try simp only [pS]
  refine tk 7 rfl (v := ?v7) (.inl ⟨by rfl, ?hy7⟩) ?rest7
  case hy7 => intro w hSw; obtain ⟨sD0, sD1, sp0, sp1, sp2, sp3⟩ := Dp.cells hSw; obtain ⟨s0, s4, s5, s8, s9⟩ := Dp.at hSw d (uh HDL) (uh HX); go_simp; try with_reducible rfl
  try simp only [pS]
  refine tk 8 rfl (v := ?v8) (.inl ⟨by rfl, ?hy8⟩) ?rest8
  case hy8 => intro w hSw; obtain ⟨sD0, sD1, sp0, sp1, sp2, sp3⟩ := Dp.cells hSw; obtain ⟨s0, s4, s5, s8, s9⟩ := Dp.at hSw d (uh HDL) (uh HX); go_simp; try with_reducible rfl
  try simp only [pS]
  refine tk 9 rfl (v := ?v9) (.inl ⟨by rfl, ?hy9⟩) ?rest9
  case hy9 => intro w hSw; obtain ⟨sD0, sD1, sp0, sp1, sp2, sp3⟩ := Dp.cells hSw; obtain ⟨s0, s4, s5, s8, s9⟩ := Dp.at hSw d (uh HDL) (uh HX); go_simp; try with_reducible rfl
  try simp only [pS]
  refine tk 10 rfl (v := ?v10) (.inl ⟨by rfl, ?hy10⟩) ?rest10
  case hy10 => intro w hSw; obtain ⟨sD0, sD1, sp0, sp1, sp2, sp3⟩ := Dp.cells hSw; obtain ⟨s0, s4, s5, s8, s9⟩ := Dp.at hSw d (uh HDL) (uh HX); go_simp; try with_reducible rfl
  try simp only [pS]
  refine tk 11 rfl (v := ?v11) (.inl ⟨by rfl, ?hy11⟩) ?rest11
  case hy11 => intro w hSw; obtain ⟨sD0, sD1, sp0, sp1, sp2, sp3⟩ := Dp.cells hSw; obtain ⟨s0, s4, s5, s8, s9⟩ := Dp.at hSw d (uh HDL) (uh HX); go_simp; try with_reducible rfl
  try simp only [pS]
  refine wpAnyH_done (by kernel_rfl) ?_ _
  go_upto_region 3 with fail
  go_cut [] (fun wx => ∃ lv, Hid (Dp w wx B D now (sg g n c) (l.set d ({ md with list := insE md.list (posE md.list nm) ⟨nm, (m : Int)⟩ }, dv, lv)) ⟨(d : Int), nm, no, bd⟩))
  case first =>
    have HDd : Hid (Dp w w1.drew B D now (sg g n c) l ⟨(d : Int), nm, no, bd⟩) := (uh HD2).step (below_drew w1 1) (uh HB)
    obtain ⟨cD0, cD1, cp0, cp1, cp2, cp3⟩ := (uh HDd).cells
    obtain ⟨n0, n4, n5, n8, n9⟩ := (uh HDd).at d (uh HDL) (uh HX)
    have HI2 := hide (uh HIN w1.drew (w1.alloc (.cells #[.string nm, .int .i64 m] 116)).drew w1.heap.size rfl rfl (uh HDd))
    have cpA : (w1.alloc (.cells #[.string nm, .int .i64 m] 116)).drew.cell? ⟨w.heap.size, 1, none⟩ = some (.string nm) := ((below_drew w1 1).alloc (Nat.le_refl _) _).cell (p := ⟨w.heap.size, 1, none⟩) (Array.getElem?_eq_some_iff.1 (uh HDd).box).1 |>.trans cp1
    have n8A : (w1.alloc (.cells #[.string nm, .int .i64 m] 116)).drew.cell? ⟨g, d * 10 + 8, none⟩ = some (.slice la md.list.length lc) := ((below_drew w1 1).alloc (Nat.le_refl _) _).cell (p := ⟨g, d * 10 + 8, none⟩) (uh HDd).df.ne.2.2 |>.trans n8
    clear HD1 HD2 HIN HPL HMAP HND
    refine wp_region_held_drew (S := (fun w' => w'.cell? ⟨w.heap.size, 1, none⟩ = some (.string nm))) (by kernel_rfl) cp1 (fun hHeld => ?_)
    refine tk 0 rfl (v := ?v12) (.inl ⟨by rfl, ?hy12⟩) ?rest12
    case hy12 => intro w hSw; skip; go_simp; try with_reducible rfl
    try simp only [pS]
    refine tk 1 rfl (v := ?v13) (.inl ⟨by rfl, ?hy13⟩) ?rest13
    case hy13 => intro w hSw; skip; go_simp; try with_reducible rfl
    try simp only [pS]
    refine tk 2 rfl (v := ?v14) (.inl ⟨by rfl, ?hy14⟩) ?rest14
    case hy14 => intro w hSw; skip; go_simp; try with_reducible rfl
    try simp only [pS]
    refine tk 3 rfl (v := ?v15) (.inl ⟨by rfl, ?hy15⟩) ?rest15
    case hy15 => intro w hSw; skip; go_simp; try with_reducible rfl
    try simp only [pS]
    refine tk 5 rfl (v := ?v16) (.inl ⟨by rfl, ?hy16⟩) ?rest16
    case hy16 => intro w hSw; skip; go_simp; try with_reducible rfl
    try simp only [pS]
    refine tk 6 rfl (v := ?v17) (.inl ⟨by rfl, ?hy17⟩) ?rest17
    case hy17 => intro w hSw; skip; go_simp; try with_reducible rfl
    try simp only [pS]
    refine tk 7 rfl (v := ?v18) (.inl ⟨by rfl, ?hy18⟩) ?rest18
    case hy18 => intro w hSw; skip; go_simp; try with_reducible rfl
    try simp only [pS]
    refine tk 8 rfl (v := ?v19) (.inl ⟨by rfl, ?hy19⟩) ?rest19
    case hy19 => intro w hSw; skip; go_simp; try with_reducible rfl
    try simp only [pS]
    refine tk 9 rfl (v := ?v20) (.inl ⟨by rfl, ?hy20⟩) ?rest20
    case hy20 => intro w hSw; skip; go_simp; try with_reducible rfl
    try simp only [pS]
    refine wpAnyH_ready (rs := [4, 10]) (by kernel_rfl) (by simp) ?_
    refine (AllReadyH.cons (o := _) rfl (fun K hK => ?_) (AllReadyH.cons (o := _) rfl (fun K hK => ?_) AllReadyH.nil))
    · go_simp
      skip
      go_wp2_with fail
      refine hK.out _ _ (by first | exact cp1 | assumption | (dsimp only; assumption)) (fun hHeld2 => ?_)
      clear hK K
      try simp only [pS]
      refine wpAnyH_ready (rs := [10]) (by kernel_rfl) (by simp) ?_
      refine rc rfl fun K hK => ?_
      go_simp
      skip
      go_wp2_with fail
      refine hK.out _ _ (by first | exact cpA | assumption | (dsimp only; assumption)) (fun hHeld2 => ?_)
      clear hK K
      try simp only [pS]
      refine wpAnyH_ready (rs := [11]) (by kernel_rfl) (by simp) ?_
      refine rc rfl fun K hK => ?_
      go_simp
      refine (uh HI2).mono ?_; rintro e w5 ⟨a', n', c', rfl, hq, hc5, hf5, hp5⟩; have HQ := hide hq; clear hq
      go_wp2_with fail
      refine hK.out _ _ (by first | exact hp5 | assumption | (dsimp only; assumption)) (fun hHeld2 => ?_)
      clear hK K
      try simp only [pS]
      refine tk 12 rfl (v := ?v21) (.inl ⟨by rfl, ?hy21⟩) ?rest21
      case hy21 => intro w hSw; skip; go_simp; try with_reducible rfl
      try simp only [pS]
      refine tk 13 rfl (v := ?v22) (.inl ⟨by rfl, ?hy22⟩) ?rest22
      case hy22 => intro w hSw; skip; go_simp; try with_reducible rfl
      try simp only [pS]
      refine wpAnyH_ready (rs := [14]) (by kernel_rfl) (by simp) ?_
      refine rc rfl fun K hK => ?_
      go_simp
      skip
      go_wp2_with fail
      refine hK.out _ _ (by first | exact (uh HQ).cells.2.2.2.1 | assumption | (dsimp only; assumption)) (fun hHeld2 => ?_)
      clear hK K
      try simp only [pS]
      refine wpAnyH_done (by kernel_rfl) ?_ _
      go_wp2_with fail
      go_meet
      exact ⟨_, HQ⟩
    · go_simp
      skip
      go_wp2_with fail
      refine hK.out _ _ (by first | exact cpA | assumption | (dsimp only; assumption)) (fun hHeld2 => ?_)
      clear hK K
      try simp only [pS]
      refine wpAnyH_ready (rs := [4]) (by kernel_rfl) (by simp) ?_
      refine rc rfl fun K hK => ?_
      go_simp
      skip
      go_wp2_with fail
      refine hK.out _ _ (by first | exact cp1 | assumption | (dsimp only; assumption)) (fun hHeld2 => ?_)
      clear hK K
      try simp only [pS]
      refine wpAnyH_ready (rs := [11]) (by kernel_rfl) (by simp) ?_
      refine rc rfl fun K hK => ?_
      go_simp
      refine (uh HI2).mono ?_; rintro e w5 ⟨a', n', c', rfl, hq, hc5, hf5, hp5⟩; have HQ := hide hq; clear hq
      go_wp2_with fail
      refine hK.out _ _ (by first | exact hp5 | assumption | (dsimp only; assumption)) (fun hHeld2 => ?_)
      clear hK K
      try simp only [pS]
      refine tk 12 rfl (v := ?v23) (.inl ⟨by rfl, ?hy23⟩) ?rest23
      case hy23 => intro w hSw; skip; go_simp; try with_reducible rfl
      try simp only [pS]
      refine tk 13 rfl (v := ?v24) (.inl ⟨by rfl, ?hy24⟩) ?rest24
      case hy24 => intro w hSw; skip; go_simp; try with_reducible rfl
      try simp only [pS]
      refine wpAnyH_ready (rs := [14]) (by kernel_rfl) (by simp) ?_
      refine rc rfl fun K hK => ?_
      go_simp
      skip
      go_wp2_with fail
      refine hK.out _ _ (by first | exact (uh HQ).cells.2.2.2.1 | assumption | (dsimp only; assumption)) (fun hHeld2 => ?_)
      clear hK K
      try simp only [pS]
      refine wpAnyH_done (by kernel_rfl) ?_ _
      go_wp2_with fail
      go_meet
      exact ⟨_, HQ⟩
  case rest =>
    obtain ⟨lv, HD3⟩ := hcut
    have hlk' := hlk
    obtain ⟨l1, hl1⟩ : ∃ l1, l1 = l.set d ({ md with list := insE md.list (posE md.list nm) ⟨nm, (m : Int)⟩ }, dv, lv) := ⟨_, rfl⟩
    rw [← hl1] at HD3
    have hlen1 : l1.length = l.length := by rw [hl1]; exact List.length_set
    have hm1 : l1.map (·.1) = upd (l.map (·.1)) d fun x => { x with list := insE md.list (posE md.list nm) ⟨nm, (m : Int)⟩ } := by rw [hl1]; exact uh HMAP _ _
    have hx1 : l1.getD d zNv = ({ md with list := insE md.list (posE md.list nm) ⟨nm, (m : Int)⟩ }, dv, lv) := by rw [hl1]; have := uh HDL; simp [List.getD, this]
    have hd1 : d < l1.length := by rw [hlen1]; exact uh HDL
    have HL2 : Hid (∀ k, k < l.length → k < (updL l1 d fun x => { x with time := now }).length) := fun k hk => by rw [updL_len, hlen1]; exact hk
    have HLK : Hid (((updL l1 d fun x => { x with time := now }).getD d zNv).1.links = md.links) := by show _ = _; rw [updL_links l1 d d (fun x => { x with time := now }) (fun _ => rfl), hx1]
    have HM2 : Hid ((updL l1 d fun x => { x with time := now }).map (·.1) = upd (upd (l.map (·.1)) d fun x => { x with list := insE md.list (posE md.list nm) ⟨nm, (m : Int)⟩ }) d fun x => { x with time := now }) := by show _ = _; rw [updL_fst _ _ hd1, hm1]
    obtain ⟨-, cD1, -, -, -, -⟩ := (uh HD3).cells
    obtain ⟨-, -, n5, -, -⟩ := (uh HD3).at d hd1 hx1
    have f5 := (uh HD3).fz (d * 10 + 5)
    have HD4' := fun W (hW : W = wc.setCell ⟨g, d * 10 + 5, none⟩ (.int .i64 now)) => show Dp w W B D now (sg g n c) (updL l1 d fun x => { x with time := now }) ⟨(d : Int), nm, no, bd⟩ by rw [hW]; exact (uh HD3).upd d 5 (.int .i64 now) (fun x => { x with time := now }) hd1 (by omega) (fun _ _ _ => .inl rfl) (fun _ => rfl) (fun _ => rfl)
    have HD4'' := hide HD4'
    clear HIN HPL HD1 HD2 HMAP hm1 hx1 hd1 hlen1 HD4' HD3
    generalize updL l1 d (fun x => { x with time := now }) = l2 at *
    clear hl1 l1
    go_upto_region 5 with fail
    obtain ⟨W4, hW4⟩ : ∃ W, W = wc.setCell ⟨g, d * 10 + 5, none⟩ (.int .i64 now) := ⟨_, rfl⟩
    rw [← hW4]
    have HD4 := hide (uh HD4'' W4 hW4)
    clear HD4'' hW4 cD1 n5 f5
    obtain ⟨mm, mdv, mlv, hmx⟩ : ∃ mm mdv mlv, l2.getD m zNv = (mm, mdv, mlv) := ⟨_, _, _, rfl⟩
    have hm2 := uh HL2 m (uh HML)
    have HMM : Hid (nd (l2.map (·.1)) m = mm) := by rw [← getD_fst l2 m hm2, hmx]; exact rfl
    obtain ⟨k0, -, -, -, k9⟩ := (uh HD4).at m hm2 hmx
    have HHM := hide hm2
    clear hmx hm2
    by_cases hk : mm.kind = 2
    · rw [hk] at k0
      have k0' : W4.cell? ⟨g, m * 10, none⟩ = some (.int .u8 2) := k0
      obtain ⟨-, -, cp0, -, -, -⟩ := (uh HD4).cells
      have f9 := (uh HD4).fz (m * 10 + 9)
      have HD5' := hide (fun W (hW : W = W4.setCell ⟨g, m * 10 + 9, none⟩ (.int .i64 d)) => show Dp w W B D now (sg g n c) (updL l2 m fun x => { x with parent := (d : Int) }) ⟨(d : Int), nm, no, bd⟩ by rw [hW]; exact (uh HD4).upd m 9 (.int .i64 d) (fun x => { x with parent := (d : Int) }) (uh HHM) (by omega) (fun _ _ _ => .inl rfl) (fun _ => rfl) (fun _ => rfl))
      have HL3 : Hid (d < (updL l2 m fun x => { x with parent := (d : Int) }).length) := by show _ < _; rw [updL_len]; exact uh HL2 d (uh HDL)
      have HLK3 : Hid (((updL l2 m fun x => { x with parent := (d : Int) }).getD d zNv).1.links = md.links) := by show _ = _; rw [updL_links l2 m d (fun x => { x with parent := (d : Int) }) (fun _ => rfl)]; exact uh HLK
      have HM3 : Hid ((updL l2 m fun x => { x with parent := (d : Int) }).map (·.1) = upd (l2.map (·.1)) m fun x => { x with parent := (d : Int) }) := updL_fst _ _ (uh HHM) _
      have HKK := hide hk
      clear k0 hk
      generalize updL l2 m (fun x => { x with parent := (d : Int) }) = l3 at *
      go_upto_region 7 with fail
      obtain ⟨W5, hW5⟩ : ∃ W, W = W4.setCell ⟨g, m * 10 + 9, none⟩ (.int .i64 d) := ⟨_, rfl⟩
      rw [← hW5]
      have HD5 := hide (uh HD5' W5 hW5)
      clear HD5' hW5 k0' k9 cp0 f9
      obtain ⟨md3, dv3, lv3, hx3⟩ : ∃ a b c, l3.getD d zNv = (a, b, c) := ⟨_, _, _, rfl⟩
      have hlk3 : md3.links = md.links := by have := uh HLK3; rw [hx3] at this; exact this
      obtain ⟨-, k4, -, -, -⟩ := (uh HD5).at d (uh HL3) hx3
      rw [hlk3] at k4
      have f4 := (uh HD5).fz (d * 10 + 4)
      have HD6 := hide ((uh HD5).upd d 4 (.int .i64 (md.links + 1)) (fun x => { x with links := x.links + 1 }) (uh HL3) (by omega) (fun m' dv' lv' => by
        by_cases e : l3.getD d zNv = (m', dv', lv')
        · refine .inl ?_
          rw [hx3] at e
          injection e with e _
          rw [← e, ← hlk3]; rfl
        · exact .inr e) (fun _ => rfl) (fun _ => rfl))
      have HM6 : Hid ((updL l3 d fun x => { x with links := x.links + 1 }).map (·.1) = listD now (l.map (·.1)) d nm m) := by
        show _ = _
        rw [updL_fst _ _ (uh HL3), uh HM3, uh HM2, listD_eq (uh HND), ← uh HM2, uh HMM, if_pos (uh HKK)]
      obtain ⟨lo, hi⟩ := hlk'
      obtain ⟨L, hL⟩ : ∃ L, L = md.links := ⟨_, rfl⟩
      rw [← hL] at k4 lo hi HD6
      clear hlk3 hx3 hL
      go_wp2_with fail
      go_end0
      exact ⟨rfl, ⟨_, (uh HD6).df, uh HM6⟩, (uh HD6).below⟩
    · have hk2 : ¬ ((mm.kind.toNat : Int) = 2) := fun e => hk (UInt8.toNat_inj.1 (by show mm.kind.toNat = 2; omega))
      have HM6 : Hid (l2.map (·.1) = listD now (l.map (·.1)) d nm m) := by
        show _ = _
        rw [listD_eq (uh HND), ← uh HM2, uh HMM, if_neg hk]
      generalize mm.kind.toNat = K at *
      clear hk
      go_wp2_with fail
      go_end0
      exact ⟨rfl, ⟨_, (uh HD4).df, uh HM6⟩, (uh HD4).below⟩
end Go.Proofs.YtidhceebafmlkaaGreatDoor.Ca
