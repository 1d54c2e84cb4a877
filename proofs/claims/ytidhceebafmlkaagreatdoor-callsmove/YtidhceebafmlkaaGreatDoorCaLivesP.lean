import Derived.Test.YtidhceebafmlkaaGreatDoorCaAct
import Derived.Test.YtidhceebafmlkaaGreatDoorCaAct2
import Derived.Test.YtidhceebafmlkaaGreatDoorCaNew
import Derived.Test.YtidhceebafmlkaaGreatDoorCaSym
import Derived.Test.YtidhceebafmlkaaGreatDoorCaPlain
import Derived.Test.YtidhceebafmlkaaGreatDoorTrStatW
import Derived.Test.YtidhceebafmlkaaGreatDoorCaDraft
import Derived.Lib.SlBytesConst
namespace Go.Proofs.YtidhceebafmlkaaGreatDoor.Ca
open Go.RowKit Cu Tr Pm Pt
def lookP (now : Int) (ns : List Nd) (e : Ev) (s : ByteArray) (f : Bool) : (Int × Nd) × Int :=
  if (findA now ns e s f).2 ≠ 0 then ((0, nz), (findA now ns e s f).2)
  else if (findA now ns e s f).1.node = 0 then ((0, nz), 6)
  else (((findA now ns e s f).1.node, nd ns (findA now ns e s f).1.node.toNat), 0)
abbrev zNdv : Array Value := #[.int .u8 0, .int .i64 0, .int .i64 0, .int .i64 0, .int .i64 0, .int .i64 0, .slice none 0 0, .string ⟨#[]⟩, .slice none 0 0, .int .i64 0]
theorem isNd_nz (w : World) : IsNd w (.agg zNdv) nz := ⟨none, 0, none, 0, rfl, ⟨rfl, Nat.le_refl _, fun _ => ⟨rfl, rfl⟩, .inl rfl⟩, ⟨rfl, Nat.le_refl _, fun _ => ⟨rfl, rfl⟩, .inl rfl⟩⟩
structure Lq (w W : World) (T E R : Nat) (tv ev : Array Value) : Prop where
  bel : Below w.heap.size w W
  tbox : W.heap[T]? = some (.cells tv 24 (0, 0))
  ebox : W.heap[E]? = some (.cells ev 32 (0, 0))
  rbox : W.heap[R]? = some (.cells zNdv 82 (0, 0))
  leR : w.heap.size ≤ R
theorem Lq.below {w W W' : World} {T E R : Nat} {tv ev : Array Value} (h : Lq w W T E R tv ev) (hb : Below W.heap.size W W') : Lq w W' T E R tv ev :=
  ⟨h.bel.trans (hb.mono h.bel.size), (hb.block _ (Array.getElem?_eq_some_iff.1 h.tbox).1).trans h.tbox, (hb.block _ (Array.getElem?_eq_some_iff.1 h.ebox).1).trans h.ebox, (hb.block _ (Array.getElem?_eq_some_iff.1 h.rbox).1).trans h.rbox, h.leR⟩
theorem Lq.cells {w W : World} {T E R : Nat} {x : Option Addr} {n cap : Nat} {now : Int} {e : Ev} (h : Lq w W T E R #[.slice x n cap, .int .i64 now] (ea e)) :
    (W.cell? ⟨T, 0, none⟩ = some (.slice x n cap) ∧ W.cell? ⟨T, 1, none⟩ = some (.int .i64 now)) ∧ (W.cell? ⟨E, 0, none⟩ = some (.int .i64 e.user) ∧ W.cell? ⟨E, 1, none⟩ = some (.int .i64 e.group) ∧ W.cell? ⟨E, 2, none⟩ = some (.int .i64 e.mask) ∧ W.cell? ⟨E, 3, none⟩ = some (.int .i64 e.dir)) ∧
    (W.cell? ⟨R, 0, none⟩ = some (.int .u8 0) ∧ W.cell? ⟨R, 1, none⟩ = some (.int .i64 0) ∧ W.cell? ⟨R, 2, none⟩ = some (.int .i64 0) ∧ W.cell? ⟨R, 3, none⟩ = some (.int .i64 0) ∧ W.cell? ⟨R, 4, none⟩ = some (.int .i64 0) ∧ W.cell? ⟨R, 5, none⟩ = some (.int .i64 0) ∧ W.cell? ⟨R, 6, none⟩ = some (.slice none 0 0) ∧ W.cell? ⟨R, 7, none⟩ = some (.string ⟨#[]⟩) ∧ W.cell? ⟨R, 8, none⟩ = some (.slice none 0 0) ∧ W.cell? ⟨R, 9, none⟩ = some (.int .i64 0)) :=
  ⟨⟨cell_of_row _ _ _ _ _ _ h.tbox, cell_of_row _ _ _ _ _ _ h.tbox⟩, ⟨cell_of_row _ _ _ _ _ _ h.ebox, cell_of_row _ _ _ _ _ _ h.ebox, cell_of_row _ _ _ _ _ _ h.ebox, cell_of_row _ _ _ _ _ _ h.ebox⟩,
    cell_of_row _ _ _ _ _ _ h.rbox, cell_of_row _ _ _ _ _ _ h.rbox, cell_of_row _ _ _ _ _ _ h.rbox, cell_of_row _ _ _ _ _ _ h.rbox, cell_of_row _ _ _ _ _ _ h.rbox, cell_of_row _ _ _ _ _ _ h.rbox, cell_of_row _ _ _ _ _ _ h.rbox, cell_of_row _ _ _ _ _ _ h.rbox, cell_of_row _ _ _ _ _ _ h.rbox, cell_of_row _ _ _ _ _ _ h.rbox⟩
theorem Lq.fz {w W : World} {T E R : Nat} {tv ev : Array Value} (h : Lq w W T E R tv ev) (j : Nat) : W.frozen? ⟨R, j, none⟩ = false := by simp [World.frozen?, h.rbox]
theorem Lq.first (w : World) (tv ev : Array Value) : Lq w (((w.alloc (.cells tv 24)).alloc (.cells ev 32)).alloc (.cells zNdv 82)) w.heap.size (w.heap.size + 1) (w.heap.size + 2) tv ev := by
  obtain ⟨w1, h1⟩ : ∃ w1, w1 = w.alloc (.cells tv 24) := ⟨_, rfl⟩
  obtain ⟨w2, h2⟩ : ∃ w2, w2 = w1.alloc (.cells ev 32) := ⟨_, rfl⟩
  have e1 : w1.heap.size = w.heap.size + 1 := by rw [h1]; simp
  have e2 : w2.heap.size = w.heap.size + 2 := by rw [h2]; simp [e1]
  have a1 : w1.heap[w.heap.size]? = some (.cells tv 24 (0, 0)) := by rw [h1]; exact heap_alloc_new w _
  have a2 : w2.heap[w.heap.size + 1]? = some (.cells ev 32 (0, 0)) := by rw [h2, ← e1]; exact heap_alloc_new w1 _
  have b1 : Below w.heap.size w w1 := by rw [h1]; exact al_below w _
  have b2 : Below w1.heap.size w1 w2 := by rw [h2]; exact al_below w1 _
  have b3 := al_below w2 (.cells zNdv 82)
  rw [← h1, ← h2]
  refine ⟨(b1.trans (b2.mono b1.size)).trans (b3.mono (by omega)), ?_, ?_, ?_, by omega⟩
  · rw [b3.block _ (by omega), b2.block _ (by omega)]; exact a1
  · rw [b3.block _ (by omega)]; exact a2
  · rw [← e2]; exact heap_alloc_new w2 _
theorem set10_below {N : Nat} {w W : World} (h : Below N w W) {R : Nat} (hR : N ≤ R) (a0 a1 a2 a3 a4 a5 a6 a7 a8 a9 : Value) : Below N w ((((((((((W.setCell ⟨R, 0, none⟩ a0).setCell ⟨R, 1, none⟩ a1).setCell ⟨R, 2, none⟩ a2).setCell ⟨R, 3, none⟩ a3).setCell ⟨R, 4, none⟩ a4).setCell ⟨R, 5, none⟩ a5).setCell ⟨R, 6, none⟩ a6).setCell ⟨R, 7, none⟩ a7).setCell ⟨R, 8, none⟩ a8).setCell ⟨R, 9, none⟩ a9) :=
  (((((((((h.setCell (p := ⟨R, 0, none⟩) hR _).setCell (p := ⟨R, 1, none⟩) hR _).setCell (p := ⟨R, 2, none⟩) hR _).setCell (p := ⟨R, 3, none⟩) hR _).setCell (p := ⟨R, 4, none⟩) hR _).setCell (p := ⟨R, 5, none⟩) hR _).setCell (p := ⟨R, 6, none⟩) hR _).setCell (p := ⟨R, 7, none⟩) hR _).setCell (p := ⟨R, 8, none⟩) hR _).setCell (p := ⟨R, 9, none⟩) hR _
set_option maxRecDepth 100000 in
set_option maxHeartbeats 4000000 in
theorem look_any (x : Option Addr) (n cap : Nat) (now : Int) (ns : List Nd) (e : Ev) (s : ByteArray) (f : Bool) (w : World) (h : Ng w x n cap ns) (hs : Sm ns) (hsz : s.size ≤ 1000000000) :
    Calls Tryz.prog 95 #[.agg #[.slice x n cap, .int .i64 now], .agg (ea e), .string s, .bool f] w fun r w' => (∃ v, r = .returned (.tuple #[.int .i64 (lookP now ns e s f).1.1, v, .int .i64 (lookP now ns e s f).2]) ∧ IsNd w' v (lookP now ns e s f).1.2) ∧ Below w.heap.size w w' := by
  have HFP : Hid (∀ W, Below w.heap.size w W → Calls Tryz.prog 121 #[.agg #[.slice x n cap, .int .i64 now], .agg (ea e), .string s, .bool f] W fun r w' => r = .returned (.tuple #[.agg (pv (findA now ns e s f).1), .int .i64 (findA now ns e s f).2]) ∧ Below W.heap.size W w') := fun W hW => findP_any x n cap ns now e s f W (h.below hW) hs hsz
  obtain ⟨L, hL⟩ : ∃ L, L = lookP now ns e s f := ⟨_, rfl⟩
  obtain ⟨r, hr⟩ : ∃ r, r = findA now ns e s f := ⟨_, rfl⟩
  have HLr : Hid (L = if r.2 ≠ 0 then ((0, nz), r.2) else if r.1.node = 0 then ((0, nz), 6) else ((r.1.node, nd ns r.1.node.toNat), 0)) := by show _ = _; rw [hL, hr]; rfl
  have HOK : Hid (r.2 = 0 → ∃ m : Nat, r.1.node = (m : Int) ∧ m < ns.length) := fun h0 => by
    rw [hr] at h0 ⊢
    have hk : someP now ns e = true := by
      cases q : someP now ns e with
      | true => rfl
      | false => unfold findA at h0; rw [if_pos q] at h0; exact absurd h0 (by decide)
    obtain ⟨m, h1, h2, -⟩ := (find_ok h0).node (some_dir hk).1
    exact ⟨m, h1, h2⟩
  rw [← hL]
  rw [← hr] at HFP
  have HNG := hide h
  obtain ⟨w3, hw3⟩ : ∃ w3, w3 = ((w.alloc (.cells #[.slice x n cap, .int .i64 now] 24)).alloc (.cells (ea e) 32)).alloc (.cells zNdv 82) := ⟨_, rfl⟩
  have HQ : Hid (Lq w w3 w.heap.size (w.heap.size + 1) (w.heap.size + 2) #[.slice x n cap, .int .i64 now] (ea e)) := by rw [hw3]; exact Lq.first w _ _
  have HW3 := hide hw3
  clear h hs hsz hL hr hw3
  go_enter Tryz.func95, Tryz.ntmps95
  go_upto_region 1 with fail
  rw [← uh HW3]
  clear HW3
  obtain ⟨T, hT⟩ : ∃ T, T = w.heap.size := ⟨_, rfl⟩
  obtain ⟨E, hE⟩ : ∃ E, E = w.heap.size + 1 := ⟨_, rfl⟩
  obtain ⟨R, hR⟩ : ∃ R, R = w.heap.size + 2 := ⟨_, rfl⟩
  rw [← hR, ← hE, ← hT] at HQ ⊢
  clear hT hE hR
  obtain ⟨⟨t0, t1⟩, ⟨e0, e1, e2, e3⟩, r0, r1, r2, r3, r4, r5, r6, r7, r8, r9⟩ := Lq.cells (uh HQ)
  go_wp2_with fail
  refine (uh HFP _ (uh HQ).bel).mono ?_
  rintro e4 w4 ⟨rfl, hb4⟩
  have hq4 := (uh HQ).below hb4
  clear hb4 t0 t1 e0 e1 e2 e3 r0 r1 r2 r3 r4 r5 r6 r7 r8 r9 HFP
  go_upto_region 2 with fail
  obtain ⟨P, hP⟩ : ∃ P, P = w4.heap.size := ⟨_, rfl⟩
  obtain ⟨w5, hw5⟩ : ∃ w5, w5 = w4.alloc (.cells (pv r.1) tyPlace) := ⟨_, rfl⟩
  have hp5 : w5.heap[P]? = some (.cells (pv r.1) tyPlace (0, 0)) := by rw [hw5, hP]; exact heap_alloc_new w4 _
  have hq5 : Lq w w5 T E R #[.slice x n cap, .int .i64 now] (ea e) := by rw [hw5]; exact hq4.below (al_below w4 _)
  rw [← hP]
  rw [← hw5]
  have HQ5 := hide hq5
  have p2 : w5.cell? ⟨P, 2, none⟩ = some (.int .i64 r.1.node) := by rw [cell_of_row _ _ _ _ _ _ hp5]; rfl
  clear hw5 hP hq4 hp5 HQ
  obtain ⟨⟨t0, t1⟩, ⟨e0, e1, e2, e3⟩, r0, r1, r2, r3, r4, r5, r6, r7, r8, r9⟩ := Lq.cells hq5
  have fz := hq5.fz
  have f0 := fz 0; have f1 := fz 1; have f2 := fz 2; have f3 := fz 3; have f4 := fz 4; have f5 := fz 5; have f6 := fz 6; have f7 := fz 7; have f8 := fz 8; have f9 := fz 9
  clear fz hq5
  by_cases hz : r.2 = 0
  · have hzb : (r.2 != 0) = false := by rw [hz]; rfl
    by_cases hn : r.1.node = 0
    · have hnb : (r.1.node == 0) = true := by rw [hn]; rfl
      have HL2 : Hid (L = ((0, nz), 6)) := by show _ = _; rw [uh HLr, if_neg (fun q => q hz), if_pos hn]
      have HF := hide (set10_below (uh HQ5).bel (uh HQ5).leR (.int .u8 0) (.int .i64 0) (.int .i64 0) (.int .i64 0) (.int .i64 0) (.int .i64 0) (.slice none 0 0) (.string ⟨#[]⟩) (.slice none 0 0) (.int .i64 0))
      clear HLr HOK HQ5
      go_wp2_with fail
      refine bodyPost_ret (v := .tuple #[.int .i64 0, .agg zNdv, .int .i64 6]) (by simp [results, Tryz.results95, go_sem, r0, r1, r2, r3, r4, r5, r6, r7, r8, r9]) rfl ?_
      rw [uh HL2]
      exact ⟨⟨_, rfl, isNd_nz _⟩, uh HF⟩
    · have hnb : (r.1.node == 0) = false := by rw [beq_eq_false_iff_ne]; exact hn
      have HL2 : Hid (L = ((r.1.node, nd ns r.1.node.toNat), 0)) := by show _ = _; rw [uh HLr, if_neg (fun q => q hz), if_neg hn]
      obtain ⟨m, hm, hml⟩ := uh HOK hz
      obtain ⟨hlen, -, -, hcells⟩ := uh HNG
      rcases hcells with h0 | ⟨b, off, hx, hbl, hc⟩
      · omega
      subst hx
      obtain ⟨da, ec, la, lc, q1, q2, q3⟩ := hc m (by omega)
      obtain ⟨k0, k1, k2, k3, k4, k5, k6, k7, k8, k9⟩ := q1.of (w' := w5) fun o => (uh HQ5).bel.cell hbl
      have hmn : (m : Int) < (n : Int) := by omega
      have hmn' : m < n := by omega
      rw [hm] at hn hnb HL2 p2
      rw [Int.toNat_natCast] at HL2
      have HF := hide (set10_below (uh HQ5).bel (uh HQ5).leR (.int .u8 ((nd ns m).kind.toNat : Int)) (.int .i64 (nd ns m).mode) (.int .i64 (nd ns m).user) (.int .i64 (nd ns m).group) (.int .i64 (nd ns m).links) (.int .i64 (nd ns m).time) (.slice da (nd ns m).data.length ec) (.string (nd ns m).target) (.slice la (nd ns m).list.length lc) (.int .i64 (nd ns m).parent))
      have HIS : Hid (∀ W, Below w.heap.size w W → IsNd W (nv (nd ns m) da ec la lc) (nd ns m)) := fun W hW => IsNd.below ⟨da, ec, la, lc, rfl, q2, q3⟩ hW
      clear hc q2 q3 HLr HOK hm hlen hml HNG
      go_wp2_with fail
      go_region
      go_wp2_with fail
      refine bodyPost_ret (v := .tuple #[.int .i64 m, nv (nd ns m) da ec la lc, .int .i64 0]) (by simp [results, Tryz.results95, go_sem, r0, r1, r2, r3, r4, r5, r6, r7, r8, r9]) rfl ?_
      rw [uh HL2]
      have hbf := below_dr (uh HF)
      exact ⟨⟨_, rfl, uh HIS _ hbf⟩, hbf⟩
  · have hzb : (r.2 != 0) = true := by simpa using hz
    have HL2 : Hid (L = ((0, nz), r.2)) := by show _ = _; rw [uh HLr, if_pos hz]
    have HF := hide (set10_below (uh HQ5).bel (uh HQ5).leR (.int .u8 0) (.int .i64 0) (.int .i64 0) (.int .i64 0) (.int .i64 0) (.int .i64 0) (.slice none 0 0) (.string ⟨#[]⟩) (.slice none 0 0) (.int .i64 0))
    clear HLr HOK HQ5
    go_wp2_with fail
    refine bodyPost_ret (v := .tuple #[.int .i64 0, .agg zNdv, .int .i64 r.2]) (by simp [results, Tryz.results95, go_sem, r0, r1, r2, r3, r4, r5, r6, r7, r8, r9]) rfl ?_
    rw [uh HL2]
    exact ⟨⟨_, rfl, isNd_nz _⟩, uh HF⟩
end Go.Proofs.YtidhceebafmlkaaGreatDoor.Ca

namespace Go.Proofs.YtidhceebafmlkaaGreatDoor.Ca
open Go.RowKit Cu Tr Pm Pt
def readP (now : Int) (ns : List Nd) (e : Ev) (s : ByteArray) : Bs × Int :=
  let l := lookP now ns e s true
  if l.2 ≠ 0 then ([], l.2) else if l.1.2.kind = 2 then ([], 8) else if mayP l.1.2 e 4 = false then ([], 10) else (l.1.2.data, 0)
theorem look_ok {now : Int} {ns : List Nd} {e : Ev} {s : ByteArray} {f : Bool} (h : (lookP now ns e s f).2 = 0) : checkP now ns = true ∧ ∃ m : Nat, m ≠ 0 ∧ m < ns.length ∧ (findA now ns e s f).2 = 0 ∧ (findA now ns e s f).1.node = (m : Int) ∧ (lookP now ns e s f).1 = ((m : Int), nd ns m) := by
  unfold lookP at h ⊢
  split at h
  · exact absurd h ‹_›
  rename_i h1
  have h1 := Decidable.not_not.1 h1
  split at h
  · exact absurd h (by decide)
  rename_i h2
  have hk : someP now ns e = true := by
    cases q : someP now ns e with
    | true => rfl
    | false => unfold findA at h1; rw [if_pos q] at h1; exact absurd h1 (by decide)
  have hc := (some_dir hk).1
  obtain ⟨m, h3, h4, -⟩ := (find_ok h1).node hc
  refine ⟨hc, m, fun e => h2 (by rw [h3, e]; rfl), h4, h1, h3, ?_⟩
  rw [if_neg (fun q => q h1), if_neg h2, h3, Int.toNat_natCast]
theorem look_data {now : Int} {ns : List Nd} {e : Ev} {s : ByteArray} {f : Bool} (h : (lookP now ns e s f).2 = 0) : (lookP now ns e s f).1.2.data.length ≤ 65536 := by
  obtain ⟨hc, m, -, hm, -, -, hl⟩ := look_ok h
  rw [hl]
  exact data_small ((checkP_parts hc).2.2.2.2.2.1 m hm)
set_option maxRecDepth 100000 in
set_option maxHeartbeats 4000000 in
theorem read_any (x : Option Addr) (n cap : Nat) (now : Int) (ns : List Nd) (e : Ev) (s : ByteArray) (w : World) (h : Ng w x n cap ns) (hs : Sm ns) (hsz : s.size ≤ 1000000000) :
    Calls Tryz.prog 20 #[.agg #[.slice x n cap, .int .i64 now], .agg (ea e), .string s] w fun r w' => (∃ v, r = .returned (.tuple #[v, .int .i64 (readP now ns e s).2]) ∧ w'.ownsRow w.heap.size 5 1 v (readP now ns e s).1.length (Lib.byteCells (readP now ns e s).1)) ∧ Below w.heap.size w w' := by
  have HLK : Hid (∀ W, Below w.heap.size w W → Calls Tryz.prog 95 #[.agg #[.slice x n cap, .int .i64 now], .agg (ea e), .string s, .bool true] W fun r w' => (∃ v, r = .returned (.tuple #[.int .i64 (lookP now ns e s true).1.1, v, .int .i64 (lookP now ns e s true).2]) ∧ IsNd w' v (lookP now ns e s true).1.2) ∧ Below W.heap.size W w') := fun W hW => look_any x n cap now ns e s true W (h.below hW) hs hsz
  have HDL : Hid ((lookP now ns e s true).2 = 0 → (lookP now ns e s true).1.2.data.length ≤ 65536) := look_data
  obtain ⟨R, hR⟩ : ∃ R, R = readP now ns e s := ⟨_, rfl⟩
  obtain ⟨L, hL⟩ : ∃ L, L = lookP now ns e s true := ⟨_, rfl⟩
  have HR : Hid (R = if L.2 ≠ 0 then ([], L.2) else if L.1.2.kind = 2 then ([], 8) else if mayP L.1.2 e 4 = false then ([], 10) else (L.1.2.data, 0)) := by show _ = _; rw [hR, hL]; rfl
  rw [← hR]
  rw [← hL] at HLK HDL
  clear hR hL h hs hsz
  obtain ⟨w2, hw2⟩ : ∃ w2, w2 = (w.alloc (.cells #[.slice x n cap, .int .i64 now] 24)).alloc (.cells (ea e) 32) := ⟨_, rfl⟩
  have hT : w2.heap[w.heap.size]? = some (.cells #[.slice x n cap, .int .i64 now] 24 (0, 0)) := by
    rw [hw2, (al_below _ _).block _ (by simp)]; exact heap_alloc_new w _
  have hE : w2.heap[w.heap.size + 1]? = some (.cells (ea e) 32 (0, 0)) := by
    rw [hw2]
    have := heap_alloc_new (w.alloc (.cells #[.slice x n cap, .int .i64 now] 24)) (.cells (ea e) 32)
    simpa using this
  have hb2 : Below w.heap.size w w2 := by rw [hw2]; exact ((Below.refl _ _).alloc (Nat.le_refl _) _).alloc (by simp) _
  have HW2 := hide hw2
  have t0 : w2.cell? ⟨w.heap.size, 0, none⟩ = some (.slice x n cap) := by rw [cell_of_row _ _ _ _ _ _ hT]; rfl
  have t1 : w2.cell? ⟨w.heap.size, 1, none⟩ = some (.int .i64 now) := by rw [cell_of_row _ _ _ _ _ _ hT]; rfl
  have c0 : w2.cell? ⟨w.heap.size + 1, 0, none⟩ = some (.int .i64 e.user) := by rw [cell_of_row _ _ _ _ _ _ hE]; rfl
  have c1 : w2.cell? ⟨w.heap.size + 1, 1, none⟩ = some (.int .i64 e.group) := by rw [cell_of_row _ _ _ _ _ _ hE]; rfl
  have c2 : w2.cell? ⟨w.heap.size + 1, 2, none⟩ = some (.int .i64 e.mask) := by rw [cell_of_row _ _ _ _ _ _ hE]; rfl
  have c3 : w2.cell? ⟨w.heap.size + 1, 3, none⟩ = some (.int .i64 e.dir) := by rw [cell_of_row _ _ _ _ _ _ hE]; rfl
  have HB2 := hide hb2
  have HE := hide hE
  clear hw2 hb2 hE hT
  go_enter Tryz.func20, Tryz.ntmps20
  go_upto_region 1 with fail
  rw [← uh HW2]
  clear HW2
  go_wp2_with fail
  refine (uh HLK _ (uh HB2)).mono ?_
  rintro e3 w3 ⟨⟨v, rfl, da, ec, la, lc, hv, hby, -⟩, hb3⟩
  subst hv
  have hE3 := (hb3.block _ (Array.getElem?_eq_some_iff.1 (uh HE)).1).trans (uh HE)
  have hB3 := (uh HB2).trans (hb3.mono (uh HB2).size)
  clear hb3 HLK t0 t1 c0 c1 c2 c3 HB2 HE
  go_upto_region 2 with fail
  obtain ⟨P, hP⟩ : ∃ P, P = w3.heap.size := ⟨_, rfl⟩
  obtain ⟨w4, hw4⟩ : ∃ w4, w4 = w3.alloc (.cells (na L.1.2 (.slice da L.1.2.data.length ec) (.slice la L.1.2.list.length lc)) 82) := ⟨_, rfl⟩
  have h34 : Below w3.heap.size w3 w4 := by rw [hw4]; exact al_below _ _
  have hp4 : w4.heap[P]? = some (.cells (na L.1.2 (.slice da L.1.2.data.length ec) (.slice la L.1.2.list.length lc)) 82 (0, 0)) := by rw [hw4, hP]; exact heap_alloc_new w3 _
  rw [← hP]
  rw [← hw4]
  have hE4 := (h34.block _ (Array.getElem?_eq_some_iff.1 hE3).1).trans hE3
  have hB4 := hB3.trans (h34.mono hB3.size)
  have HBY := hide (hby.below h34)
  have HB4 := hide hB4
  have HP4 := hide hp4
  have HE4 := hide hE4
  have k0 : w4.cell? ⟨P, 0, none⟩ = some (.int .u8 (L.1.2.kind.toNat : Int)) := by rw [cell_of_row _ _ _ _ _ _ hp4]; rfl
  have k1 : w4.cell? ⟨P, 1, none⟩ = some (.int .i64 L.1.2.mode) := by rw [cell_of_row _ _ _ _ _ _ hp4]; rfl
  have k2 : w4.cell? ⟨P, 2, none⟩ = some (.int .i64 L.1.2.user) := by rw [cell_of_row _ _ _ _ _ _ hp4]; rfl
  have k3 : w4.cell? ⟨P, 3, none⟩ = some (.int .i64 L.1.2.group) := by rw [cell_of_row _ _ _ _ _ _ hp4]; rfl
  have k4 : w4.cell? ⟨P, 4, none⟩ = some (.int .i64 L.1.2.links) := by rw [cell_of_row _ _ _ _ _ _ hp4]; rfl
  have k5 : w4.cell? ⟨P, 5, none⟩ = some (.int .i64 L.1.2.time) := by rw [cell_of_row _ _ _ _ _ _ hp4]; rfl
  have k6 : w4.cell? ⟨P, 6, none⟩ = some (.slice da L.1.2.data.length ec) := by rw [cell_of_row _ _ _ _ _ _ hp4]; rfl
  have k7 : w4.cell? ⟨P, 7, none⟩ = some (.string L.1.2.target) := by rw [cell_of_row _ _ _ _ _ _ hp4]; rfl
  have k8 : w4.cell? ⟨P, 8, none⟩ = some (.slice la L.1.2.list.length lc) := by rw [cell_of_row _ _ _ _ _ _ hp4]; rfl
  have k9 : w4.cell? ⟨P, 9, none⟩ = some (.int .i64 L.1.2.parent) := by rw [cell_of_row _ _ _ _ _ _ hp4]; rfl
  have c0 : w4.cell? ⟨w.heap.size + 1, 0, none⟩ = some (.int .i64 e.user) := by rw [cell_of_row _ _ _ _ _ _ hE4]; rfl
  have c1 : w4.cell? ⟨w.heap.size + 1, 1, none⟩ = some (.int .i64 e.group) := by rw [cell_of_row _ _ _ _ _ _ hE4]; rfl
  have c2 : w4.cell? ⟨w.heap.size + 1, 2, none⟩ = some (.int .i64 e.mask) := by rw [cell_of_row _ _ _ _ _ _ hE4]; rfl
  have c3 : w4.cell? ⟨w.heap.size + 1, 3, none⟩ = some (.int .i64 e.dir) := by rw [cell_of_row _ _ _ _ _ _ hE4]; rfl
  clear hP hw4 h34 hp4 hE3 hE4 hB3 hB4 hby
  have HMY : Hid (∀ W, Calls Tryz.prog 37 #[.agg (na L.1.2 (.slice da L.1.2.data.length ec) (.slice la L.1.2.list.length lc)), .agg (ea e), .int .i64 4] W fun r w' => r = .returned (.bool (mayP L.1.2 e 4)) ∧ Below W.heap.size W w') := fun W => may_any _ _ _ _ _ W
  by_cases hz : L.2 = 0
  · have hzb : (L.2 != 0) = false := by rw [hz]; rfl
    by_cases hk : L.1.2.kind = 2
    · have hkb : ((L.1.2.kind.toNat : Int) == 2) = true := by rw [hk]; rfl
      have HR2 : Hid (R = ([], 8)) := by show _ = _; rw [uh HR, if_neg (fun q => q hz), if_pos hk]
      clear HR HDL HBY HMY HP4 HE4
      go_wp2_with fail
      refine bodyPost_ret (v := .tuple #[.slice none 0 0, .int .i64 (8)]) (by simp [results, Tryz.results20, go_sem]) rfl ?_
      rw [uh HR2]
      exact ⟨⟨_, rfl, World.ownsRow_nil _ _ _ _⟩, uh HB4⟩
    · have hkb : ((L.1.2.kind.toNat : Int) == 2) = false := by rw [show ((L.1.2.kind.toNat : Int) == 2) = decide (L.1.2.kind = 2) from kd_eq _ 2]; exact decide_eq_false hk
      have HDL2 := hide (uh HDL hz)
      cases hm : mayP L.1.2 e 4 with
      | false =>
        have HR2 : Hid (R = ([], 10)) := by show _ = _; rw [uh HR, if_neg (fun q => q hz), if_neg hk, if_pos hm]
        clear HR HDL HBY HP4 HE4
        go_wp2_with fail
        refine (uh HMY _).mono ?_
        rintro e5 w5 ⟨rfl, hb5⟩
        have HB5 := hide ((uh HB4).trans (hb5.mono (uh HB4).size))
        clear hb5 k0 k1 k2 k3 k4 k5 k6 k7 k8 k9 c0 c1 c2 c3
        go_wp2_with fail
        refine bodyPost_ret (v := .tuple #[.slice none 0 0, .int .i64 (10)]) (by simp [results, Tryz.results20, go_sem]) rfl ?_
        rw [uh HR2]
        exact ⟨⟨_, rfl, World.ownsRow_nil _ _ _ _⟩, uh HB5⟩
      | true =>
        have HR2 : Hid (R = (L.1.2.data, 0)) := by show _ = _; rw [uh HR, if_neg (fun q => q hz), if_neg hk, if_neg (by rw [hm]; decide)]
        clear HR HDL
        go_wp2_with fail
        refine (uh HMY _).mono ?_
        rintro e5 w5 ⟨rfl, hb5⟩
        have HB5 := hide ((uh HB4).trans (hb5.mono (uh HB4).size))
        have hp5 := (hb5.block _ (Array.getElem?_eq_some_iff.1 (uh HP4)).1).trans (uh HP4)
        have j6 : w5.cell? ⟨P, 6, none⟩ = some (.slice da L.1.2.data.length ec) := by rw [cell_of_row _ _ _ _ _ _ hp5]; rfl
        have HCB := hide (copyByte_any da _ ec (Lib.byteCells L.1.2.data) w5 (by simp [Lib.byteCells]) (by have := uh HDL2; omega) (byteCells_one _) (byGet ((uh HBY).below hb5)))
        clear hb5 hp5 k0 k1 k2 k3 k4 k5 k6 k7 k8 k9 c0 c1 c2 c3 HBY HP4 HE4 HMY
        go_wp2_with fail
        refine (uh HCB).mono ?_
        rintro e6 w6 ⟨⟨v, rfl, hown⟩, hb6⟩
        have HOW := hide hown
        have HB6 := hide ((uh HB5).trans (hb6.mono (uh HB5).size))
        clear hown hb6 j6 HCB
        go_wp2_with fail
        refine bodyPost_ret (v := .tuple #[v, .int .i64 (0)]) (by simp [results, Tryz.results20, go_sem]) rfl ?_
        rw [uh HR2]
        exact ⟨⟨_, rfl, own_base (uh HOW) (uh HB5).size⟩, uh HB6⟩
  · have hzb : (L.2 != 0) = true := by simpa using hz
    have HR2 : Hid (R = ([], L.2)) := by show _ = _; rw [uh HR, if_pos hz]
    clear HR HDL HBY HMY HP4 HE4
    go_wp2_with fail
    refine bodyPost_ret (v := .tuple #[.slice none 0 0, .int .i64 (L.2)]) (by simp [results, Tryz.results20, go_sem]) rfl ?_
    rw [uh HR2]
    exact ⟨⟨_, rfl, World.ownsRow_nil _ _ _ _⟩, uh HB4⟩
end Go.Proofs.YtidhceebafmlkaaGreatDoor.Ca

namespace Go.Proofs.YtidhceebafmlkaaGreatDoor.Tr
open Go.RowKit Cu
abbrev noS : Value := .slice none 0 0
abbrev noT : Value := .string ⟨#[]⟩
abbrev newA : Array Value := #[.int .u8 0, .int .i64 0, .int .i64 0, .int .i64 0, .int .i64 0, .int .i64 0, noS, noT, noS, .int .i64 0, .int .u8 2, .int .i64 493, .int .i64 0, .int .i64 0, .int .i64 2, .int .i64 0, noS, noT, noS, .int .i64 1]
set_option maxRecDepth 100000 in
set_option maxHeartbeats 1000000 in
theorem new_any (w : World) : Calls Tryz.prog 43 #[] w fun e w' => e = .returned (.agg #[.slice (some ⟨w.heap.size + 1, 0, none⟩) 2 2, .int .i64 0]) ∧ w'.heap[w.heap.size + 1]? = some (.cells newA 82) ∧ Below w.heap.size w w' := by
  go_enter Tryz.func43, Tryz.ntmps43
  go_wp2
  refine bodyPost_ret (v := .agg #[.slice (some ⟨w.heap.size + 1, 0, none⟩) 2 2, .int .i64 0]) (by simp [results, Tryz.results43, go_sem]) rfl ⟨rfl, ?_, ((Below.refl _ _).alloc (Nat.le_refl _) _).alloc (by simp) _⟩
  have h := heap_alloc_new (w.alloc (.cells #[.slice (some ⟨w.heap.size + 1, 0, none⟩) 2 2, .int .i64 0] 24)) (.cells newA 82)
  rw [World.size_alloc] at h
  exact h
abbrev smA (e1 : Value) : Array Value := #[.int .u8 0, .int .i64 0, .int .i64 0, .int .i64 0, .int .i64 0, .int .i64 0, noS, noT, noS, .int .i64 0, .int .u8 2, .int .i64 493, .int .i64 0, .int .i64 0, .int .i64 3, .int .i64 0, noS, noT, e1, .int .i64 1]
def small : List Nd := [nz, ⟨2, 493, 0, 0, 3, 0, [], ⟨#[]⟩, [⟨⟨#[97]⟩, 2⟩], 1⟩, ⟨2, 493, 0, 0, 2, 0, [], ⟨#[]⟩, [⟨⟨#[98]⟩, 3⟩], 1⟩, ⟨1, 420, 0, 0, 1, 0, [104, 101, 108, 108, 111], ⟨#[]⟩, [], 0⟩]
def newT : List Nd := [nz, ⟨2, 493, 0, 0, 2, 0, [], ⟨#[]⟩, [], 1⟩]
structure Sw (w w6 : World) (G T E : Nat) : Prop where
  below : Below w.heap.size w w6
  box : w6.heap[w.heap.size]? = some (.cells #[noS, .int .i64 0] 24)
  hG : w6.heap[G]? = some (.cells (smA (.slice (some ⟨E, 0, none⟩) 1 1)) 82)
  hT : w6.heap[T]? = some (.cells #[.slice (some ⟨G, 0, none⟩) 2 2, .int .i64 0] 24)
  hE : w6.heap[E]? = some (.cells #[.string ⟨#[97]⟩, .int .i64 2] 116)
  lt : w.heap.size < G ∧ G < T ∧ T < E ∧ E < w6.heap.size
structure Sk (w W : World) (G T E A : Nat) : Prop where
  below : Below w.heap.size w W
  box : W.heap[w.heap.size]? = some (.cells #[noS, .int .i64 0] 24)
  hT : W.heap[T]? = some (.cells #[.slice (some ⟨G, 0, none⟩) 2 2, .int .i64 0] 24)
  hE : W.heap[E]? = some (.cells #[.string ⟨#[97]⟩, .int .i64 2] 116)
  hA : W.heap[A]? = some (.cells #[.string ⟨#[98]⟩, .int .i64 3] 116)
  hD : W.heap[A + 1]? = some (.cells #[.int .u8 104, .int .u8 101, .int .u8 108, .int .u8 108, .int .u8 111] 5 (5, 6))
  lt : w.heap.size < G ∧ G < T ∧ T < E ∧ E < A
end Go.Proofs.YtidhceebafmlkaaGreatDoor.Tr

namespace Go.Proofs.YtidhceebafmlkaaGreatDoor.Ca
open Go.RowKit Cu Tr Pm Pt
abbrev lvR : Ev := ⟨0, 0, 18, 1⟩
abbrev lvU : Ev := ⟨5, 0, 0, 1⟩
abbrev tA : ByteArray := ⟨#[97]⟩
abbrev tB : ByteArray := ⟨#[98]⟩
abbrev tSA : ByteArray := ⟨#[47, 97]⟩
abbrev lc1 : Cl := ⟨1, tA, ⟨#[]⟩, 0, 0, 0, 0, [], lvU⟩
abbrev lc2 : Cl := ⟨1, tA, ⟨#[]⟩, 420, 0, 0, 0, [104, 105], lvR⟩
abbrev lc3 : Cl := ⟨3, tA, ⟨#[]⟩, 0, 0, 0, 0, [], lvR⟩
abbrev lc4 : Cl := ⟨8, tA, tB, 0, 0, 0, 0, [], lvR⟩
abbrev lc5 : Cl := ⟨6, tA, tA, 0, 0, 0, 0, [], lvR⟩
def lvT1 : List Nd := (doP 0 newT lc2).1.1
def lvT2 : List Nd := (doP 0 lvT1 lc4).1.1
theorem lv1 : (doP 0 newT lc1).2 = 10 := by decide +kernel
theorem lv2 : (doP 0 newT lc2).2 = 0 ∧ (doP 0 newT lc2).1.2 = 0 := by decide +kernel
theorem lv3 : (doP 0 lvT1 lc3).2 = 7 := by decide +kernel
theorem lv4 : (doP 0 lvT1 lc4).2 = 0 ∧ (doP 0 lvT1 lc4).1.2 = 0 := by decide +kernel
theorem lv5 : (doP 0 lvT1 lc5).2 = 7 := by decide +kernel
theorem lvRd : (readP 0 lvT1 lvU tSA).1 = [104, 105] ∧ (readP 0 lvT1 lvU tSA).2 = 0 := by decide +kernel
theorem lvFd : findV 0 lvT2 1 tB = 2 := by decide +kernel
theorem lvS0 : checkP 0 newT = true := by decide +kernel
theorem lvS1 : checkP 0 lvT1 = true := by decide +kernel
theorem lvS2 : checkP 0 lvT2 = true := by decide +kernel
theorem new_ng {w : World} {g : Nat} (h : w.heap[g]? = some (.cells newA 82)) : Ng w (some ⟨g, 0, none⟩) 2 2 newT := by
  have c : ∀ j, w.cell? ⟨g, j, none⟩ = newA[j]? := fun j => cell_of_row _ _ _ _ _ _ h
  have b0 : ∀ n : Nd, n.data = [] → By w none n.data.length 0 n.data := fun n e => by rw [e]; exact ⟨rfl, Nat.le_refl _, fun _ => ⟨rfl, rfl⟩, .inl rfl⟩
  have l0 : ∀ n : Nd, n.list = [] → Eg w none n.list.length 0 n.list := fun n e => by rw [e]; exact ⟨rfl, Nat.le_refl _, fun _ => ⟨rfl, rfl⟩, .inl rfl⟩
  refine ⟨rfl, Nat.le_refl _, fun e => (nomatch e), .inr ⟨g, 0, rfl, (Array.getElem?_eq_some_iff.1 h).1, fun i hi => ?_⟩⟩
  match i, hi with
  | 0, _ => exact ⟨none, 0, none, 0, ⟨c 0, c 1, c 2, c 3, c 4, c 5, c 6, c 7, c 8, c 9⟩, b0 _ rfl, l0 _ rfl⟩
  | 1, _ => exact ⟨none, 0, none, 0, ⟨c 10, c 11, c 12, c 13, c 14, c 15, c 16, c 17, c 18, c 19⟩, b0 _ rfl, l0 _ rfl⟩
end Go.Proofs.YtidhceebafmlkaaGreatDoor.Ca
