import Derived.Test.YtidhceebafmlkaaGreatDoorTrFind
import Derived.Test.YtidhceebafmlkaaGreatDoorPtStrW
namespace Go.Proofs.YtidhceebafmlkaaGreatDoor.Tr
open Go.RowKit Cu
def Cs (w : World) (g n : Nat) (f : Nat → ByteArray) : Prop := ∀ k, k < n → w.cell? ⟨g, k, none⟩ = some (.string (f k)) ∧ w.frozen? ⟨g, k, none⟩ = false
theorem Cs.set {w : World} {g n : Nat} {f : Nat → ByteArray} (h : Cs w g n f) (i : Nat) (hi : i < n) (x : ByteArray) : Cs (w.setCell ⟨g, i, none⟩ (.string x)) g n (fun k => if k = i then x else f k) := by
  intro k hk
  obtain ⟨c1, c2⟩ := h k hk
  obtain ⟨i1, i2⟩ := h i hi
  dsimp only
  by_cases e : k = i
  · subst e
    rw [if_pos rfl]
    exact ⟨World.cell?_setCell_same _ _ _ i1, by simpa using c2⟩
  · rw [if_neg e]
    refine ⟨?_, by simpa using c2⟩
    rw [← c1]
    exact World.cell?_setCell_other _ _ _ _ (fun h => e (by injection h with _ h2; exact h2.symm))
def swp (n i : Nat) (f : Nat → ByteArray) (k : Nat) : ByteArray := if k < i ∨ n ≤ k + i then f (n - 1 - k) else f k
set_option maxRecDepth 100000 in
set_option maxHeartbeats 1000000 in
theorem reverse_any (g n cap : Nat) (f : Nat → ByteArray) (w : World) (h : Cs w g n f) (hn : n ≤ 1000000) (_hle : n ≤ cap) (_hg : g < w.heap.size) :
    Calls Tryz.prog 269 #[.slice (some ⟨g, 0, none⟩) n cap] w fun e w' => e = .returned (.tuple #[]) ∧ Cs w' g n (fun k => f (n - 1 - k)) ∧ Below g w w' := by
  have HS0 : Hid (Cs w g n (swp n 0 f)) := fun k hk => by
    have : swp n 0 f k = f k := by unfold swp; rw [if_neg (by omega)]
    rw [this]; exact h k hk
  clear h
  go_enter Tryz.func269, Tryz.ntmps269
  go_wp2
  go_loopw [2, 3] (fun x y wr => ∃ i : Nat, i + i ≤ n + 1 ∧ x = .int .i64 i ∧ y = .int .i64 ((n : Int) - 1 - i) ∧ Hid (Cs wr g n (swp n i f)) ∧ Hid (Below g w wr)) (fun x y _ => n - (intOf x).toNat)
  case atStart => exact ⟨0, by omega, rfl, by go_num, HS0, Below.refl _ _⟩
  case round =>
    clear HS0
    obtain ⟨i, hi, rfl, rfl, hC, hnx⟩ := hrel
    by_cases hlt : i + i + 1 < n
    · obtain ⟨j, hj⟩ : ∃ j, j = n - 1 - i := ⟨_, rfl⟩
      rw [show (n : Int) - 1 - (i : Int) = (j : Int) by omega]
      have hij : (i : Int) < (j : Int) := by omega
      have hin : i < n := by omega
      have hjn : j < n := by omega
      obtain ⟨ci, fi⟩ := uh hC i hin
      obtain ⟨cj, fj⟩ := uh hC j hjn
      have hne : i ≠ j := by omega
      have hne' : j ≠ i := by omega
      obtain ⟨xi, hxi⟩ : ∃ x, x = swp n i f i := ⟨_, rfl⟩
      obtain ⟨xj, hxj⟩ : ∃ x, x = swp n i f j := ⟨_, rfl⟩
      rw [← hxi] at ci
      rw [← hxj] at cj
      have hC2 : Hid (∀ q, Cs (((wr.setCell ⟨g, i, none⟩ (.string xj)).setCell ⟨g, j, none⟩ (.string xi)).drewN q) g n (swp n (i + 1) f)) := fun q => by
        have h1 := ((uh hC).set i hin xj).set j hjn xi
        intro k hk
        obtain ⟨a1, a2⟩ := h1 k hk
        refine ⟨?_, a2⟩
        show ((wr.setCell ⟨g, i, none⟩ (.string xj)).setCell ⟨g, j, none⟩ (.string xi)).cell? ⟨g, k, none⟩ = _
        rw [a1]
        congr 2
        dsimp only
        by_cases ekj : k = j
        · subst ekj
          rw [if_pos rfl, hxi]
          unfold swp
          rw [if_neg (by omega), if_pos (by omega)]
          congr 1; omega
        · rw [if_neg ekj]
          by_cases eki : k = i
          · subst eki
            rw [if_pos rfl, hxj]
            unfold swp
            rw [if_neg (by omega), if_pos (by omega)]
            congr 1
          · rw [if_neg eki]
            unfold swp
            by_cases hq : k < i ∨ n ≤ k + i
            · rw [if_pos hq, if_pos (by omega)]
            · rw [if_neg hq, if_neg (by omega)]
      have hB2 : Hid (∀ q, Below g w (((wr.setCell ⟨g, i, none⟩ (.string xj)).setCell ⟨g, j, none⟩ (.string xi)).drewN q)) := fun q => by
        have h1 := ((uh hnx).setCell (p := ⟨g, i, none⟩) (Nat.le_refl _) (.string xj)).setCell (p := ⟨g, j, none⟩) (Nat.le_refl _) (.string xi)
        exact ⟨h1.os, h1.tape, h1.output, h1.size, h1.block⟩
      have HJ := hide hj
      clear hxi hxj hj
      go_wp2
      go_region
      go_wp2
      go_roundw
      case rel => have := uh HJ; exact ⟨i + 1, by omega, by go_num, by go_num, uh hC2 1, uh hB2 1⟩
      case measure => simp [intOf]; omega
    · have hge : ((n : Int) - 1 - (i : Int)) ≤ (i : Int) := by omega
      have hF : Hid (Cs wr g n (fun k => f (n - 1 - k))) := fun k hk => by
        have := uh hC k hk
        have e : swp n i f k = f (n - 1 - k) := by
          unfold swp
          by_cases hq : k < i ∨ n ≤ k + i
          · rw [if_pos hq]
          · rw [if_neg hq]; congr 1; omega
        rw [e] at this; exact this
      go_wp2
      go_end0
      exact ⟨rfl, uh hF, uh hnx⟩
set_option maxRecDepth 100000 in
theorem reverse_none (a : Option Addr) (cap : Nat) (w : World) : Calls Tryz.prog 269 #[.slice a 0 cap] w fun e w' => e = .returned (.tuple #[]) ∧ w' = w := by
  go_enter Tryz.func269, Tryz.ntmps269
  go_wp2
  refine wp_loop_rounds 1 ?_
  rw [rounds_succ]
  go_wp2
  go_end0
  exact ⟨rfl, rfl⟩
def hits (l : List En) (d : Nat) : List ByteArray := (l.filter fun e => decide (e.node = (d : Int))).map fun e => e.name
def namesUp (ns : List Nd) : Nat → Nat → List ByteArray
  | 0, _ => []
  | s + 1, d => hits (nd ns (nd ns d).parent.toNat).list d ++ namesUp ns s (nd ns d).parent.toNat
def depN (ns : List Nd) : Nat → Nat → Nat
  | 0, _ => 0
  | f + 1, d => if d = 1 then 0 else 1 + depN ns f (nd ns d).parent.toNat
theorem depN_up {ns : List Nd} {s d : Nat} (h : Up ns s d) : ∀ f, s ≤ f → depN ns f d = s := by
  induction h with
  | root => intro f _; cases f <;> simp [depN]
  | @step s x p h1 h2 h3 h4 h5 ih =>
    intro f hf
    cases f with
    | zero => omega
    | succ f =>
      unfold depN
      rw [if_neg (by omega), h4, Int.toNat_natCast, ih f (by omega)]
      omega
theorem hits_len (l : List En) (d : Nat) : (hits l d).length ≤ l.length := by
  unfold hits; rw [List.length_map]; exact List.length_filter_le _ _
theorem hits_take (l : List En) (d k : Nat) (h : k < l.length) : hits (l.take (k + 1)) d = hits (l.take k) d ++ (if (en l k).node = (d : Int) then [(en l k).name] else []) := by
  have e : l.take (k + 1) = l.take k ++ [en l k] := by
    rw [List.take_succ_eq_append_getElem h]; simp [en, List.getD, List.getElem?_eq_getElem h]
  unfold hits
  rw [e, List.filter_append, List.map_append]
  congr 1
  by_cases q : (en l k).node = (d : Int) <;> simp [q]
theorem Up.cases1 {ns : List Nd} {s d : Nat} (h : Up ns s d) (hd : d ≠ 1) : ∃ s' p : Nat, s = s' + 1 ∧ 1 < d ∧ d < ns.length ∧ (nd ns d).parent = (p : Int) ∧ Up ns s' p := by
  cases h with
  | root => exact absurd rfl hd
  | step h1 h2 h3 h4 h5 => exact ⟨_, _, rfl, h1, h2, h4, h5⟩
theorem Up.lt {ns : List Nd} {s d : Nat} (h : Up ns s d) (h1 : 1 < ns.length) : d < ns.length := by
  cases h with
  | root => exact h1
  | step a b c d e => exact b
theorem Up.zero {ns : List Nd} {s : Nat} (h : Up ns s 1) : s = 0 := by
  cases h with
  | root => rfl
  | step a b c d e => omega
def Nm (w : World) (B : Nat) (v : Value) (l : List ByteArray) : Prop := ∃ a cap, v = .slice a l.length cap ∧ l.length ≤ cap ∧ (l.length = 0 ∨ ∃ g, a = some ⟨g, 0, none⟩ ∧ B ≤ g ∧ g < w.heap.size ∧ ∀ (j : Nat) x, l[j]? = some x → w.cell? ⟨g, j, none⟩ = some (.string x))
theorem Tryz.infoStr : (Tryz.prog.info? 9).map (fun i => (i.zero, i.size, i.bytes)) = some (some (.string ⟨#[]⟩), 1, 16) := by kernel_rfl
abbrev RowS (B : Nat) (v : Value) (l : List ByteArray) (w : World) : Prop := w.ownsRow B 9 1 v l.length (l.map Value.string)
theorem rowS_slice {B : Nat} {v : Value} {l : List ByteArray} {w : World} (h : RowS B v l w) : ∃ a c, v = .slice a l.length c ∧ l.length ≤ c ∧ (l.length = 0 ∨ ∃ g, a = some ⟨g, 0, none⟩ ∧ B ≤ g ∧ g < w.heap.size ∧ Cs w g l.length (fun k => l.getD k ⟨#[]⟩)) := by
  rcases h.2 with ⟨hv, h0⟩ | ⟨g, cap, cur, hv, hb, hg, hle, rest⟩
  · exact ⟨none, 0, by rw [hv, h0], by omega, .inl h0⟩
  · refine ⟨some ⟨g, 0, none⟩, cap, hv, hle, .inr ⟨g, rfl, hb, (Array.getElem?_eq_some_iff.1 hg).1, fun k hk => ⟨?_, by simp [World.frozen?, hg]⟩⟩⟩
    have h1 := h.cells (g := g) (by rw [hv]; rfl) k (.string (l.getD k ⟨#[]⟩)) (by simp [List.getD, List.getElem?_eq_getElem hk])
    rw [show (⟨g, 0, none⟩ : Addr).add k = ⟨g, k, none⟩ by unfold Addr.add; split <;> simp_all] at h1
    exact h1
theorem rowS_ne {B : Nat} {v : Value} {l : List ByteArray} {w : World} (h : RowS B v l w) (k : Nat) (hk : k < B) : v.ownBlock ≠ some k := fun e => by
  have := (h.lt k e).1
  omega
structure Nt (w wr : World) (o : Obj) : Prop where
  below : Below w.heap.size w wr
  box : wr.heap[w.heap.size]? = some o
  sz : w.heap.size + 1 ≤ wr.heap.size
theorem Nt.alloc {w wr : World} {o : Obj} (h : Nt w wr o) (x : Obj) : Nt w (wr.alloc x) o :=
  ⟨h.below.alloc h.below.size _, (Below.heap_alloc wr x _ (by have := h.sz; omega)).trans h.box, by simp; have := h.sz; omega⟩
theorem Nt.grown {w wr w2 : World} {o : Obj} (h : Nt w wr o) {v : Value} {l : List ByteArray} (hr : RowS (w.heap.size + 1) v l wr) (hg : wr.grownBy w2 v.ownBlock) : Nt w w2 o := by
  have hs := h.sz
  have hz := hg.size
  exact ⟨h.below.grown hg h.below.size (fun k hk => by have := (hr.lt k hk).1; omega), (hg.block _ (by omega) (fun e => rowS_ne hr _ (Nat.lt_succ_self _) e.symm)).trans h.box, by omega⟩
set_option maxRecDepth 100000 in
set_option maxHeartbeats 2000000 in
theorem namesTo_any (a : Option Addr) (n cap : Nat) (ns : List Nd) (now : Int) (d s : Nat) (w : World) (h : Ng w a n cap ns) (h1 : 1 < n) (hls : ∀ i, (nd ns i).list.length ≤ 1000) (hup : Up ns s d) (hs : s ≤ 32) :
    Calls Tryz.prog 244 #[.agg #[.slice a n cap, .int .i64 now], .int .i64 d] w fun e w' => (∃ v, e = .returned v ∧ Nm w' w.heap.size v (namesUp ns s d).reverse) ∧ Below w.heap.size w w' := by
  rcases h.cells with h0 | ⟨b, off, rfl, hb, hc⟩
  · omega
  have hlen := h.len
  have HC := hide hc
  have HLS := hide hls
  obtain ⟨i1, hi1, hy0, hy1, hy2⟩ := info_parts Tryz.infoStr
  obtain ⟨o, ho⟩ : ∃ o : Obj, o = .cells #[.slice (some ⟨b, off, none⟩) n cap, .int .i64 now] 24 := ⟨_, rfl⟩
  have HT0 : Hid (Nt w (w.alloc o) o) := ⟨(Below.refl _ _).alloc (Nat.le_refl _) _, heap_alloc_new w _, by simp⟩
  have HO := hide ho
  have HUP := hide hup
  clear h hc hls hup
  go_enter Tryz.func244, Tryz.ntmps244
  go_wp2
  rw [← ho]
  clear ho
  go_loopw [1, 5] (fun x v wr => ∃ (s' d' : Nat) (acc : List ByteArray), s' ≤ 32 ∧ x = .int .i64 d' ∧ acc.length + s' * 1000 ≤ 32000 ∧ Hid (Up ns s' d') ∧ Hid (acc ++ namesUp ns s' d' = namesUp ns s d) ∧ Hid (RowS (w.heap.size + 1) v acc wr) ∧ Hid (Nt w wr o)) (fun x _ _ => depN ns 32 (intOf x).toNat)
  case atStart => exact ⟨s, d, [], hs, rfl, by simp; omega, HUP, rfl, World.ownsRow_nil _ _ _ _, HT0⟩
  case round =>
    clear HT0 HUP
    obtain ⟨s', d', acc, hs', rfl, hal, hUp, hcat, hrow, hNt⟩ := hrel
    by_cases hd1 : d' = 1
    · subst hd1
      have hs0 := (uh hUp).zero
      subst hs0
      have hacc : acc = namesUp ns s d := by rw [← uh hcat]; simp [namesUp]
      have HA := hide hacc
      have hB := hide (uh hNt).below
      obtain ⟨av, cv, rfl, hle, hcs⟩ := rowS_slice (uh hrow)
      clear hacc hcat hUp hrow hNt
      rcases hcs with hl0 | ⟨g, rfl, hg1, hg2, hcs⟩
      · rw [hl0]
        have HR := hide (reverse_none av cv wr)
        have HL0 := hide hl0
        clear hl0
        go_wp2_with (go_at_call 269; refine (uh HR).mono ?_; rintro e w' ⟨rfl, rfl⟩)
        go_ret
        refine ⟨⟨_, rfl, ?_⟩, uh hB⟩
        rw [← uh HA]
        have h0 := uh HL0
        exact ⟨av, cv, by rw [List.length_reverse, h0]; rfl, by rw [List.length_reverse]; exact hle, .inl (by rw [List.length_reverse]; exact h0)⟩
      · have HR := hide (reverse_any g acc.length cv _ wr hcs (by omega) hle hg2)
        have HLE := hide hle
        have HG1 := hide hg1
        clear hcs hle
        generalize hal2 : acc.length = al at *
        have HAL := hide hal2
        clear hal2
        go_wp2_with fail
        refine (uh HR).mono ?_
        rintro e w2 ⟨rfl, hcs2, b2⟩
        have hB2 := hide ((uh hB).trans (b2.mono (by have := uh HG1; omega)))
        have hz2 := hide b2.size
        have HC2 := hide hcs2
        clear b2 hcs2 HR
        go_wp2
        go_ret
        refine ⟨⟨_, rfl, ?_⟩, uh hB2⟩
        rw [← uh HA]
        have e1 := uh HAL
        refine ⟨some ⟨g, 0, none⟩, cv, by rw [List.length_reverse, e1]; rfl, by rw [List.length_reverse, e1]; exact uh HLE, .inr ⟨g, rfl, by have := uh HG1; omega, by have := uh hz2; omega, fun j x hx => ?_⟩⟩
        have hj : j < acc.length := by
          have := (List.getElem?_eq_some_iff.1 hx).1
          rwa [List.length_reverse] at this
        have q := (uh HC2 j (by omega)).1
        rw [List.getElem?_reverse hj] at hx
        have e2 : acc.getD (al - 1 - j) ⟨#[]⟩ = x := by
          rw [← e1]; simp only [List.getD]; rw [hx]; rfl
        exact q.trans (congrArg (fun t => some (Value.string t)) e2)
    · obtain ⟨s2, p, rfl, hd2, hdn, hpar, hup2⟩ := (uh hUp).cases1 hd1
      have hdn' : d' < n := by rw [← hlen]; exact hdn
      have hpn : p < n := by rw [← hlen]; exact hup2.lt (by omega)
      have hdi : (d' : Int) < (n : Int) := by omega
      have hpi : (p : Int) < (n : Int) := by omega
      have hd1' : ((d' : Int) != 1) = true := by simp; omega
      have hN := uh hNt
      obtain ⟨_, _, _, _, q1, -, -⟩ := (uh HC d' hdn').below hb hN.below
      obtain ⟨_, _, la, lc, q2, -, heg⟩ := (uh HC p hpn).below hb hN.below
      have c9 := q1.c9
      rw [hpar] at c9
      have c8 := q2.c8
      have cb : wr.cell? ⟨w.heap.size, 0, none⟩ = some (.slice (some ⟨b, off, none⟩) n cap) := by
        have := hN.box
        rw [uh HO] at this
        rw [cell_of_row _ _ _ _ _ _ this]; rfl
      have hup3 := hide hup2
      have hcat2 : Hid (acc ++ hits (nd ns p).list d' ++ namesUp ns s2 p = namesUp ns s d) := by
        rw [← uh hcat]
        show _ = acc ++ (hits (nd ns (nd ns d').parent.toNat).list d' ++ namesUp ns s2 (nd ns d').parent.toNat)
        rw [hpar, Int.toNat_natCast, List.append_assoc]
      have hll := uh HLS p
      have HE : Hid (∀ W k, Below w.heap.size w W → k < (nd ns p).list.length → ∃ eb eo, la = some ⟨eb, eo, none⟩ ∧ E2 W eb (eo + k * 2) (en (nd ns p).list k)) := fun W k hW hk => by
        obtain ⟨_, _, la', lc', r1, -, re⟩ := (uh HC p hpn).below hb hW
        obtain ⟨_, _, la0, lc0, r0, -, -⟩ := (uh HC p hpn)
        have e1 : Value.slice la' (nd ns p).list.length lc' = Value.slice la0 (nd ns p).list.length lc0 := by
          have g1 := r1.c8
          have g2 := (hW.cell (p := ⟨b, off + p * 10 + 8, none⟩) hb).trans r0.c8
          rw [g1] at g2; simpa using g2
        have e2 : Value.slice la (nd ns p).list.length lc = Value.slice la0 (nd ns p).list.length lc0 := by
          have g2 := (hN.below.cell (p := ⟨b, off + p * 10 + 8, none⟩) hb).trans r0.c8
          rw [c8] at g2; simpa using g2
        have e3 : la = la' := by
          injection e1 with x1; injection e2 with x2; rw [x1, x2]
        rw [e3]
        rcases re.cells with h0 | ⟨eb, eo, g1, g2, g3⟩
        · omega
        · exact ⟨eb, eo, g1, g3 k hk⟩
      obtain ⟨L, hL⟩ : ∃ L, L = (nd ns p).list := ⟨_, rfl⟩
      rw [← hL] at c8 hcat2 hll HE
      obtain ⟨ll, hlle⟩ : ∃ ll, L.length = ll := ⟨_, rfl⟩
      rw [hlle] at c8 hll HE
      have HLE := hide hlle
      have hdep := hide (depN_up (uh hUp) 32 hs')
      have hdep2 := hide (depN_up (uh hup3) 32 (by omega))
      clear hN q1 q2 hcat heg hL hlle hUp hup2 hpar
      go_wp2
      clear c9 c8 cb
      go_loopw [5, 24] (fun v i wq => ∃ k : Nat, k ≤ ll ∧ i = .int .i64 k ∧ Hid (RowS (w.heap.size + 1) v (acc ++ hits (L.take k) d') wq) ∧ Hid (Nt w wq o)) (fun _ i _ => ll - (intOf i).toNat)
      case atStart => exact ⟨0, Nat.zero_le _, rfl, by simpa [hits] using hrow, hNt⟩
      case round =>
        clear hrow hNt
        obtain ⟨k, hk, rfl, hrow, hNt⟩ := hrel
        by_cases hlt : k < ll
        · have hlt' : (k : Int) < (ll : Int) := by omega
          obtain ⟨eb, eo, rfl, he⟩ := uh HE wr k (uh hNt).below hlt
          have ht := hide (hits_take L d' k (by rw [uh HLE]; exact hlt))
          have hsz := (uh hNt).sz
          have hhl := hits_len (L.take k) d'
          rw [List.length_take] at hhl
          obtain ⟨nm, hnm⟩ : ∃ x, x = (en L k).name := ⟨_, rfl⟩
          obtain ⟨no, hno⟩ : ∃ x, x = (en L k).node := ⟨_, rfl⟩
          have e0 := he.c0
          have e1 := he.c1
          rw [← hnm] at e0 ht
          rw [← hno] at e1 ht
          clear he hnm hno
          have hNA := hide ((uh hNt).alloc (.cells #[.string nm, .int .i64 no] 116))
          by_cases hq : no = (d' : Int)
          · subst hq
            rw [if_pos rfl] at ht
            have hrow2 := hide (((uh hrow).alloc (.cells #[.string nm, .int .i64 (d' : Int)] 116)).alloc (.cells #[.string nm] 9))
            have hN2 := hide ((uh hNA).alloc (.cells #[.string nm] 9))
            have hbn : Hid (∀ j u, [Value.string nm][j]? = some u → ((wr.alloc (.cells #[.string nm, .int .i64 (d' : Int)] 116)).alloc (.cells #[.string nm] 9)).cell? ((⟨wr.heap.size + 1, 0, none⟩ : Addr).add j) = some u) := fun j u hj => by
              have q := byte_new (wr.alloc (.cells #[.string nm, .int .i64 (d' : Int)] 116)) (.string nm) 9 j u hj
              rw [World.size_alloc] at q
              exact q
            have hal9 : acc.length + (hits (L.take k) d').length ≤ 32000 := by omega
            have hll9 : (acc ++ hits (L.take k) d').length ≤ 32000 := by rw [List.length_append]; exact hal9
            obtain ⟨A9, hA9⟩ : ∃ A9, acc ++ hits (L.take k) d' = A9 := ⟨_, rfl⟩
            rw [hA9] at hrow2 hll9
            have HA9 := hide hA9
            clear hA9 hal9 hhl hrow
            go_wp2_with (at_builtin; refine wpList_append_own _ rfl _ _ 60 rfl (w.heap.size + 1) 9 i1 _ 1 16 Tryz.underlying60 hi1 hy0 hy1 hy2 rfl (by decide) _ _ _ rfl (uh hrow2) ⟨wr.heap.size + 1, 0, none⟩ 1 1 [.string nm] rfl rfl (uh hbn) (by simp [Value.oneCell']) (by unfold maxLen; omega) (by omega) (by simp; omega) ?_; intro v' w9 hown9 hg9 hnil9)
            have hN9 := hide ((uh hN2).grown (uh hrow2) hg9)
            have hrow9 : Hid (RowS (w.heap.size + 1) v' (A9 ++ [nm]) w9) := by
              unfold RowS
              rw [List.length_append, List.map_append]
              exact hown9
            clear hown9 hg9 hnil9 hbn hrow2 hN2 hNA
            go_wp2
            go_roundw
            case rel =>
              refine ⟨k + 1, by omega, by go_num, ?_, hN9⟩
              rw [uh ht, ← List.append_assoc, uh HA9]
              exact hrow9
            case measure => simp [intOf]; omega
          · rw [if_neg hq, List.append_nil] at ht
            go_wp2
            go_roundw
            case rel =>
              refine ⟨k + 1, by omega, by go_num, ?_, hNA⟩
              rw [uh ht]
              exact (uh hrow).alloc _
            case measure => simp [intOf]; omega
        · have e : k = ll := by omega
          subst e
          have htk : L.take k = L := List.take_of_length_le (by rw [uh HLE]; exact Nat.le_refl _)
          rw [htk] at hrow
          have hhl := hits_len L d'
          clear htk
          go_wp2
          go_roundw
          case rel => exact ⟨s2, p, acc ++ hits L d', by omega, rfl, by rw [List.length_append]; have := uh HLE; omega, hup3, hcat2, hrow, hNt⟩
          case measure =>
            have g1 := uh hdep
            have g2 := uh hdep2
            simp [intOf]
            omega
end Go.Proofs.YtidhceebafmlkaaGreatDoor.Tr
