/- What Get answers. -/
import Derived.Test.YtbofidpoajdcmaaGreatDoorCdPaths
import Derived.Test.YtbofidpoajdcmaaGreatDoorCdSum
import Derived.BigRegion
namespace Go.Proofs.YtbofidpoajdcmaaGreatDoor.Cd
open Go.RowKit Cu Tr

abbrev fnv (i rb : Nat) : Value := .func (.func i) #[rp rb] #[]
abbrev fnO (rb : Nat) : Obj := .cells #[fnv 122 rb, fnv 123 rb, fnv 124 rb, fnv 125 rb, fnv 126 rb] 29
set_option maxHeartbeats 400000 in
set_option maxRecDepth 100000 in
theorem parts_any (rb : Nat) (w : World) : Calls Tryz.prog 78 #[rp rb] w fun e w' => e = .returned (.slice (some ⟨w.heap.size, 0, none⟩) 5 5) ∧ w' = w.alloc (fnO rb) := by
  have hmf : ∀ (fn : Fn) (first cap : Array Value) (w : World), (Instr.makeFunc fn first cap).run Tryz.prog w = .ok (.func fn first cap) w := fun _ _ _ _ => rfl
  go_enter Tryz.func78, Tryz.ntmps78
  go_wp2_with fail
  go_ret
  exact ⟨rfl, rfl⟩
theorem whole_any (w0 : World) (K rb fb : Nat) (l : Bs) (w : World) (h : Js w0 K rb fb l g1 w) :
    Calls Tryz.prog 77 #[.slice (some ⟨fb, 0, none⟩) 5 5] w (PartR w0 K rb fb l g6) := by
  let G : Nat → Rest := fun i => match i with
    | 0 => g1
    | 1 => g2
    | 2 => g3
    | 3 => g4
    | 4 => g5
    | _ => g6
  refine areWhole_any fb 5 partIds (rp rb) (fun i wr => Js w0 K rb fb l (G i) wr) (Bad w0 K l) w rfl (by omega) ?_ (fun i wr hj => hj.fns) ?_ h
  · intro i hi args w'
    simp only [partIds, List.mem_cons, List.not_mem_nil, or_false] at hi
    rcases hi with rfl | rfl | rfl | rfl | rfl <;> simp [go_sem]
  · intro i id wr hid hj
    match i, hid with
    | 0, hid => simp at hid; subst hid; exact kind_any w0 K rb fb l wr hj
    | 1, hid => simp at hid; subst hid; exact paths_part w0 K rb fb l wr hj
    | 2, hid => simp at hid; subst hid; exact numbers_part w0 K rb fb l wr hj
    | 3, hid => simp at hid; subst hid; exact data_part w0 K rb fb l wr hj
    | 4, hid => simp at hid; subst hid; exact env_part w0 K rb fb l wr hj
/-- what Get answers -/
def GetR (w : World) (l : Bs) (e : Ending) (w' : World) : Prop := Below w.heap.size w w' ∧
  match getP l with
  | some (c, r) => ∃ d, e = .returned (.tuple #[.agg (ca c d), .int .i64 ((l.length : Int) - (r.length : Int)), .int .i64 0]) ∧ Row w.heap.size d c.data w'
  | none => e = .returned (.tuple #[.agg (ca caz (.slice none 0 0)), .int .i64 0, .int .i64 5])
abbrev zA : Array Value := #[.int .u8 0, .string ⟨#[]⟩, .string ⟨#[]⟩, .int .i64 0, .int .i64 0, .int .i64 0, .int .i64 0, .slice none 0 0, .int .i64 0, .int .i64 0, .int .i64 0, .int .i64 0]
abbrev rA (a : Option Addr) (n cap : Nat) : Array Value := #[.slice a n cap, .int .u8 0, .string ⟨#[]⟩, .string ⟨#[]⟩, .int .i64 0, .int .i64 0, .int .i64 0, .int .i64 0, .slice none 0 0, .int .i64 0, .int .i64 0, .int .i64 0, .int .i64 0]
/-- a call laid into a box -/
abbrev setC (w : World) (g : Nat) (c : Ca) (d : Value) : World := (((((((((((w.setCell ⟨g, 0, none⟩ (.int .u8 (c.kind.toNat : Int))).setCell ⟨g, 1, none⟩ (.string c.path)).setCell ⟨g, 2, none⟩ (.string c.other)).setCell ⟨g, 3, none⟩ (.int .i64 c.mode)).setCell ⟨g, 4, none⟩ (.int .i64 c.user)).setCell ⟨g, 5, none⟩ (.int .i64 c.group)).setCell ⟨g, 6, none⟩ (.int .i64 c.time)).setCell ⟨g, 7, none⟩ (d)).setCell ⟨g, 8, none⟩ (.int .i64 c.eu)).setCell ⟨g, 9, none⟩ (.int .i64 c.eg)).setCell ⟨g, 10, none⟩ (.int .i64 c.em)).setCell ⟨g, 11, none⟩ (.int .i64 c.ed)
abbrev S12 (g : Nat) : List Addr := [(⟨g, 0, none⟩ : Addr), (⟨g, 1, none⟩ : Addr), (⟨g, 2, none⟩ : Addr), (⟨g, 3, none⟩ : Addr), (⟨g, 4, none⟩ : Addr), (⟨g, 5, none⟩ : Addr), (⟨g, 6, none⟩ : Addr), (⟨g, 7, none⟩ : Addr), (⟨g, 8, none⟩ : Addr), (⟨g, 9, none⟩ : Addr), (⟨g, 10, none⟩ : Addr), (⟨g, 11, none⟩ : Addr)]
theorem setC_fr (w : World) (g : Nat) (c : Ca) (d : Value) : Fr (S12 g) w (setC w g c d) := ((((((((((((Fr.set w _ _).mono (by simp)).trans ((Fr.set _ _ _).mono (by simp))).trans ((Fr.set _ _ _).mono (by simp))).trans ((Fr.set _ _ _).mono (by simp))).trans ((Fr.set _ _ _).mono (by simp))).trans ((Fr.set _ _ _).mono (by simp))).trans ((Fr.set _ _ _).mono (by simp))).trans ((Fr.set _ _ _).mono (by simp))).trans ((Fr.set _ _ _).mono (by simp))).trans ((Fr.set _ _ _).mono (by simp))).trans ((Fr.set _ _ _).mono (by simp))).trans ((Fr.set _ _ _).mono (by simp))
set_option maxRecDepth 100000 in
theorem setC_cells (w : World) (g : Nat) (c : Ca) (d : Value) (h : ∀ i, i < 12 → ∃ v, w.cell? ⟨g, i, none⟩ = some v) : ∀ i v, (ca c d)[i]? = some v → (setC w g c d).cell? ⟨g, i, none⟩ = some v := by
  obtain ⟨v0, q0⟩ := h 0 (by omega)
  obtain ⟨v1, q1⟩ := h 1 (by omega)
  obtain ⟨v2, q2⟩ := h 2 (by omega)
  obtain ⟨v3, q3⟩ := h 3 (by omega)
  obtain ⟨v4, q4⟩ := h 4 (by omega)
  obtain ⟨v5, q5⟩ := h 5 (by omega)
  obtain ⟨v6, q6⟩ := h 6 (by omega)
  obtain ⟨v7, q7⟩ := h 7 (by omega)
  obtain ⟨v8, q8⟩ := h 8 (by omega)
  obtain ⟨v9, q9⟩ := h 9 (by omega)
  obtain ⟨v10, q10⟩ := h 10 (by omega)
  obtain ⟨v11, q11⟩ := h 11 (by omega)
  intro i v hv
  have hi : i < 12 := by
    have := (Array.getElem?_eq_some_iff.1 hv).1
    simpa using this
  match i, hi with
  | 0, _ => simp at hv; subst hv; simp [go_sem, q0]
  | 1, _ => simp at hv; subst hv; simp [go_sem, q1]
  | 2, _ => simp at hv; subst hv; simp [go_sem, q2]
  | 3, _ => simp at hv; subst hv; simp [go_sem, q3]
  | 4, _ => simp at hv; subst hv; simp [go_sem, q4]
  | 5, _ => simp at hv; subst hv; simp [go_sem, q5]
  | 6, _ => simp at hv; subst hv; simp [go_sem, q6]
  | 7, _ => simp at hv; subst hv; simp [go_sem, q7]
  | 8, _ => simp at hv; subst hv; simp [go_sem, q8]
  | 9, _ => simp at hv; subst hv; simp [go_sem, q9]
  | 10, _ => simp at hv; subst hv; simp [go_sem, q10]
  | 11, _ => simp at hv; subst hv; simp [go_sem, q11]
theorem below_drew9 {B : Nat} {w w' : World} (h : Below B w w') : Below B w w'.drew := ⟨h.os, h.tape, h.output, h.size, h.block⟩
theorem takeP_le {k : Nat} {l x r : Bs} (h : takeP k l = some (x, r)) : r.length ≤ l.length := by
  unfold takeP at h
  split at h
  · simp at h; rw [← h.2, List.length_drop]; omega
  · simp at h
theorem numN_le {k : Nat} {l r : Bs} {x : Nat} (h : numN k l = some (x, r)) : r.length ≤ l.length := by
  simp only [numN, Option.map_eq_some_iff] at h
  obtain ⟨p, hp, h⟩ := h
  injection h with h1 h2
  rw [← h2]
  exact takeP_le (x := p.1) (r := p.2) hp
theorem lenP_le2 {m : Nat} {l r : Bs} {x : Nat} (h : lenP m l = some (x, r)) : r.length ≤ l.length := by
  simp only [lenP, Option.bind_eq_some_iff] at h
  obtain ⟨p, hp, h⟩ := h
  split at h
  · injection h with h
    subst h
    exact numN_le hp
  · simp at h
theorem txtP_le {l x r : Bs} (h : txtP l = some (x, r)) : r.length ≤ l.length := by
  simp only [txtP, Option.bind_eq_some_iff] at h
  obtain ⟨p, hp, h⟩ := h
  exact Nat.le_trans (takeP_le h) (lenP_le2 (x := p.1) (r := p.2) hp)
theorem intP_le {l r : Bs} {x : Int} (h : intP l = some (x, r)) : r.length ≤ l.length := by
  simp only [intP, Option.map_eq_some_iff] at h
  obtain ⟨p, hp, h⟩ := h
  injection h with h1 h2
  rw [← h2]
  exact numN_le (x := p.1) (r := p.2) hp
theorem intsP_le : ∀ {k : Nat} {l r : Bs} {x : List Int}, intsP k l = some (x, r) → r.length ≤ l.length
  | 0, l, r, x, h => by simp [intsP] at h; rw [h.2]; exact Nat.le_refl _
  | k + 1, l, r, x, h => by
    simp only [intsP, Option.bind_eq_some_iff, Option.map_eq_some_iff] at h
    obtain ⟨p, hp, q, hq, h⟩ := h
    injection h with h1 h2
    rw [← h2]
    exact Nat.le_trans (intsP_le (x := q.1) (r := q.2) hq) (intP_le (x := p.1) (r := p.2) hp)
theorem getP_le {l r : Bs} {c : Ca} (h : getP l = some (c, r)) : r.length ≤ l.length := by
  simp only [getP, g1, g2, g3, g4, g5, g6, Option.bind_eq_some_iff] at h
  obtain ⟨p1, h1, p2, h2, p3, h3, p4, h4, p5, h5, p6, h6, h⟩ := h
  have e1 := numN_le (x := p1.1) (r := p1.2) h1
  have e2 := txtP_le (x := p2.1) (r := p2.2) h2
  have e3 := txtP_le (x := p3.1) (r := p3.2) h3
  have e4 := intsP_le (x := p4.1) (r := p4.2) h4
  have e5 := txtP_le (x := p5.1) (r := p5.2) h5
  have e6 := intsP_le (x := p6.1) (r := p6.2) h6
  injection h with h
  injection h with _ h
  rw [← h]
  omega
theorem infoCall : (Tryz.prog.info? 27).map (·.size) = some 12 := by kernel_rfl
theorem start_J (a : Option Addr) (n cap : Nat) (l : Bs) (w : World) (hB : By w a n cap l) (hn : n ≤ 4611686018427387904) :
    Js (w.alloc (.cells zA 27)) (w.heap.size + 1) (w.heap.size + 1) (w.heap.size + 1 + 1) l g1 (((w.alloc (.cells zA 27)).alloc (.cells (rA a n cap) 83)).alloc (fnO (w.heap.size + 1))) := by
  obtain ⟨w1, h1⟩ : ∃ w1, w1 = w.alloc (.cells zA 27) := ⟨_, rfl⟩
  have s1 : w1.heap.size = w.heap.size + 1 := by rw [h1]; simp
  have b1 : Below w.heap.size w w1 := by rw [h1]; exact below_new w _
  rw [← h1]
  obtain ⟨w2, h2⟩ : ∃ w2, w2 = w1.alloc (.cells (rA a n cap) 83) := ⟨_, rfl⟩
  have s2 : w2.heap.size = w.heap.size + 1 + 1 := by rw [h2, World.size_alloc, s1]
  have b2 : Below w1.heap.size w1 w2 := by rw [h2]; exact below_new w1 _
  have e2 : w2.heap[w.heap.size + 1]? = some (.cells (rA a n cap) 83 (0, 0)) := by rw [h2, ← s1]; exact heap_alloc_new w1 _
  rw [← h2]
  have b3 : Below w2.heap.size w2 (w2.alloc (fnO (w.heap.size + 1))) := below_new w2 _
  have e3 : (w2.alloc (fnO (w.heap.size + 1))).heap[w.heap.size + 1]? = some (.cells (rA a n cap) 83 (0, 0)) := (b3.block _ (by omega)).trans e2
  have f3 : (w2.alloc (fnO (w.heap.size + 1))).heap[w.heap.size + 1 + 1]? = some (fnO (w.heap.size + 1)) := by rw [← s2]; exact heap_alloc_new w2 _
  have b4 : Below (w.heap.size + 1) w1 (w2.alloc (fnO (w.heap.size + 1))) := (b2.mono (by omega)).trans (b3.mono (by omega))
  have sz : w.heap.size + 1 < (w2.alloc (fnO (w.heap.size + 1))).heap.size := by rw [World.size_alloc]; omega
  generalize w2.alloc (fnO (w.heap.size + 1)) = w3 at *
  have q := fun i => cell_of_row w3 (w.heap.size + 1) i _ _ _ e3
  have fz : ∀ i, w3.frozen? ⟨w.heap.size + 1, i, none⟩ = false := fun i => by simp [World.frozen?, e3]
  refine ⟨b4, f3, by omega, caz, l, .slice none 0 0, ⟨⟨a, n, cap, q 0, By.low (K := w.heap.size + 1) (hB.below b1) ?_ b4, ?_⟩, fz 0, sz, Nat.le_refl _, by rw [hB.len]; exact hn⟩, ⟨q 1, q 2, q 3, q 4, q 5, q 6, q 7, q 8, q 9, q 10, q 11, q 12, fz, sz⟩, row_nil _ _, rfl⟩
  · intro h0 ad e
    have := By.in hB h0 ad e
    omega
  · intro h0 ad e
    have := By.in hB h0 ad e
    omega
set_option maxHeartbeats 2000000 in
set_option maxRecDepth 100000 in
theorem get_any (a : Option Addr) (n cap : Nat) (l : Bs) (w : World) (hB : By w a n cap l) (hn : n ≤ 4611686018427387904) : Calls Tryz.prog 17 #[.slice a n cap] w (GetR w l) := by
  have hW := hide (whole_any _ _ _ _ l _ (start_J a n cap l w hB hn))
  have hP := hide (parts_any (w.heap.size + 1) ((w.alloc (.cells zA 27)).alloc (.cells (rA a n cap) 83)))
  have hb1 : Hid (Below w.heap.size w (w.alloc (.cells zA 27))) := below_new w _
  have hz1 : Hid ((w.alloc (.cells zA 27)).heap[w.heap.size]? = some (.cells zA 27 (0, 0))) := heap_alloc_new w _
  have hlen : Hid (l.length = n) := hB.len
  clear hB
  go_enter Tryz.func17, Tryz.ntmps17
  go_wp2_with fail
  refine (unhide hP).mono ?_
  rintro e w1 ⟨rfl, rfl⟩
  go_wp2_with fail
  refine (unhide hW).mono ?_
  rintro e w4 (⟨rfl, hJ⟩ | ⟨rfl, hbad⟩)
  · obtain ⟨c, r, d, hR, hC, hD, hg⟩ := hJ.ex
    obtain ⟨a5, n5, cap5, k0, hB5, _⟩ := hR.ex
    have hn5 := hB5.len
    subst hn5
    have hz4 := (hJ.below.block _ (Nat.lt_succ_self _)).trans (unhide hz1)
    have hlt4 : w.heap.size < w4.heap.size := (Array.getElem?_eq_some_iff.1 hz4).1
    have k1 := hC.c1
    have k2 := hC.c2
    have k3 := hC.c3
    have k4 := hC.c4
    have k5 := hC.c5
    have k6 := hC.c6
    have k7 := hC.c7
    have k8 := hC.c8
    have k9 := hC.c9
    have k10 := hC.c10
    have k11 := hC.c11
    have k12 := hC.c12
    obtain ⟨da, dc, rfl⟩ := row_slice hD
    have q := fun i => cell_of_row w4 w.heap.size i _ _ _ hz4
    have q0 := q 0
    have q1 := q 1
    have q2 := q 2
    have q3 := q 3
    have q4 := q 4
    have q5 := q 5
    have q6 := q 6
    have q7 := q 7
    have q8 := q 8
    have q9 := q 9
    have q10 := q 10
    have q11 := q 11
    have F9 := setC_fr w4 w.heap.size c (.slice da c.data.length dc)
    have C9 := setC_cells w4 w.heap.size c (.slice da c.data.length dc) (fun i hi => ⟨zA[i]'hi, (q i).trans (Array.getElem?_eq_getElem hi)⟩)
    have hD9 : Row (w.heap.size + 1 + 1) (.slice da c.data.length dc) c.data (setC w4 w.heap.size c (.slice da c.data.length dc)) := row_kept hD F9 (fun k hk p hp => by
      have := row_lo hD k hk
      simp only [S12, List.mem_cons, List.not_mem_nil, or_false] at hp
      rcases hp with rfl | rfl | rfl | rfl | rfl | rfl | rfl | rfl | rfl | rfl | rfl | rfl <;> (simp; omega))
    have b9 : Below w.heap.size w (setC w4 w.heap.size c (.slice da c.data.length dc)).drew := below_drew9 ((unhide hb1).trans ((hJ.below.mono (Nat.le_succ _)).trans (F9.below (Nat.le_of_lt hlt4) (fun p hp => by
      simp only [S12, List.mem_cons, List.not_mem_nil, or_false] at hp
      rcases hp with rfl | rfl | rfl | rfl | rfl | rfl | rfl | rfl | rfl | rfl | rfl | rfl <;> simp))))
    have HF9 := hide F9
    have HC9 := hide C9
    have HD9 := hide hD9
    have HB9 := hide b9
    clear F9 C9 hD9 b9
    have fz : ∀ i, w4.frozen? ⟨w.heap.size, i, none⟩ = false := fun i => by simp [World.frozen?, hz4]
    have f0 := fz 0
    have f1 := fz 1
    have f2 := fz 2
    have f3 := fz 3
    have f4 := fz 4
    have f5 := fz 5
    have f6 := fz 6
    have f7 := fz 7
    have f8 := fz 8
    have f9 := fz 9
    have f10 := fz 10
    have f11 := fz 11
    have HJ := hide hJ
    have HD := hide hD
    have HG := hide hg
    clear hJ hR hC hD hg hB5 hW hP hz1 hz4 q fz
    go_wp2_with fail
    go_region
    change Exit.then _ _ Exit.normal _ (World.drew (setC w4 w.heap.size c (.slice da c.data.length dc)))
    generalize setC w4 w.heap.size c (.slice da c.data.length dc) = w9 at *
    have r0 := unhide HC9 0 _ rfl
    have r1 := unhide HC9 1 _ rfl
    have r2 := unhide HC9 2 _ rfl
    have r3 := unhide HC9 3 _ rfl
    have r4 := unhide HC9 4 _ rfl
    have r5 := unhide HC9 5 _ rfl
    have r6 := unhide HC9 6 _ rfl
    have r7 := unhide HC9 7 _ rfl
    have r8 := unhide HC9 8 _ rfl
    have r9 := unhide HC9 9 _ rfl
    have r10 := unhide HC9 10 _ rfl
    have r11 := unhide HC9 11 _ rfl
    clear HC9 q0 q1 q2 q3 q4 q5 q6 q7 q8 q9 q10 q11 f0 f1 f2 f3 f4 f5 f6 f7 f8 f9 f10 f11 k0 k1 k2 k3 k4 k5 k6 k7 k8 k9 k10 k11 k12
    go_wp2_with fail
    refine bodyPost_ret (v := .tuple #[.agg (ca c (.slice da c.data.length dc)), .int .i64 (wrap64 ((n : Int) - (r.length : Int))), .int .i64 0]) ?_ rfl ⟨unhide HB9, ?_⟩
    · simp [results, Tryz.results17, go_sem, r0, r1, r2, r3, r4, r5, r6, r7, r8, r9, r10, r11]
    · rw [unhide HG]
      simp only [g6]
      refine ⟨_, ?_, row_base (unhide HD9) (by omega)⟩
      rw [unhide hlen]
      have hrl := getP_le (unhide HG)
      rw [unhide hlen] at hrl
      have : wrap64 ((n : Int) - (r.length : Int)) = (n : Int) - (r.length : Int) := by unfold wrap64; omega
      rw [this]
  · have HB := hide hbad
    have hz4 := (hbad.1.block _ (Nat.lt_succ_self _)).trans (unhide hz1)
    have hst := hide (run_store_arr (P := Tryz.prog) (c' := zA) hz4 infoCall rfl (by simp [Value.oneCell']))
    have e9 : (w4.setRow w.heap.size zA).heap[w.heap.size]? = some (.cells zA 27 (0, 0)) := setRow_heap _ _ _ _ _ _ hz4
    have b9 := hide ((unhide hb1).trans ((below_setRow (B := w.heap.size) (hbad.1.mono (Nat.le_succ _)) (Nat.le_refl _) zA)))
    generalize w4.setRow w.heap.size zA = w9 at *
    have q := fun i => cell_of_row w9 w.heap.size i _ _ _ e9
    have q0 := q 0
    have q1 := q 1
    have q2 := q 2
    have q3 := q 3
    have q4 := q 4
    have q5 := q 5
    have q6 := q 6
    have q7 := q 7
    have q8 := q 8
    have q9 := q 9
    have q10 := q 10
    have q11 := q 11
    clear hbad hW hP hz4 e9 q
    go_wp2_with (refine wpList_store_arr _ rfl _ _ 27 rfl _ rfl _ rfl _ (by exact unhide hst) ?_)
    refine bodyPost_ret (v := .tuple #[.agg (ca caz (.slice none 0 0)), .int .i64 0, .int .i64 5]) ?_ rfl ⟨unhide b9, ?_⟩
    · simp [results, Tryz.results17, go_sem, q0, q1, q2, q3, q4, q5, q6, q7, q8, q9, q10, q11]
      exact ⟨rfl, rfl, rfl, rfl, rfl, rfl, rfl, rfl, rfl, rfl, rfl⟩
    · rw [(unhide HB).2]
end Go.Proofs.YtbofidpoajdcmaaGreatDoor.Cd
