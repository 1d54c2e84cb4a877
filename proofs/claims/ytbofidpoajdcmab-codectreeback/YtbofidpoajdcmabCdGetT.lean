/- What GetTree answers. -/
import Derived.Test.YtbofidpoajdcmabCdTree2
import Derived.Test.YtbofidpoajdcmabCdTrBackP
import Derived.BigRegion
namespace Go.Proofs.Ytbofidpoajdcmab.Cd
open Go.RowKit Cu Tr

abbrev fnT (rb : Nat) : Obj := .cells #[fnv 33 rb, fnv 34 rb] 27
set_option maxHeartbeats 400000 in
set_option maxRecDepth 100000 in
theorem tparts_any (rb : Nat) (w : World) : Calls Try.prog 19 #[rp rb] w fun e w' => e = .returned (.slice (some ⟨w.heap.size, 0, none⟩) 2 2) ∧ w' = w.alloc (fnT rb) := by
  have hmf : ∀ (fn : Fn) (first cap : Array Value) (w : World), (Instr.makeFunc fn first cap).run Try.prog w = .ok (.func fn first cap) w := fun _ _ _ _ => rfl
  go_enter Try.func19, Try.ntmps19
  go_wp2_with fail
  go_ret
  exact ⟨rfl, rfl⟩
theorem twhole_any (w0 : World) (K rb fb : Nat) (l : Bs) (w : World) (h : Jt w0 K rb fb 0 l nl9 [] w) :
    Calls Try.prog 18 #[.slice (some ⟨fb, 0, none⟩) 2 2] w (PartT (At2 w0 K rb fb l) w0 K l) := by
  let G : Nat → World → Prop := fun i => match i with
    | 0 => Jt w0 K rb fb 0 l nl9 []
    | 1 => At1 w0 K rb fb l
    | _ => At2 w0 K rb fb l
  refine areWhole_any fb 2 treeIds (rp rb) (fun i wr => G i wr) (BadT w0 K l) w rfl (by omega) ?_ (fun i wr hj => ?_) ?_ h
  · intro i hi args w'
    simp only [treeIds, List.mem_cons, List.not_mem_nil, or_false] at hi
    rcases hi with rfl | rfl <;> simp [go_sem]
  · match i, hj with
    | 0, hj => exact hj.fns
    | 1, hj => obtain ⟨_, _, _, hj⟩ := hj; exact hj.fns
    | i + 2, hj => obtain ⟨_, _, _, _, _, _, _, hj⟩ := hj; exact hj.fns
  · intro i id wr hid hj
    match i, hid with
    | 0, hid => simp at hid; subst hid; exact now_any w0 K rb fb l wr hj
    | 1, hid => simp at hid; subst hid; exact nodes_any w0 K rb fb l wr hj
/-- what GetTree answers -/
def GetTR (w : World) (l : Bs) (e : Ending) (w' : World) : Prop := Below w.heap.size w w' ∧
  match treeP l with
  | some ((now, ns), r) => ∃ v L, e = .returned (.tuple #[.agg #[v, .int .i64 now], .int .i64 ((l.length : Int) - (r.length : Int)), .int .i64 0]) ∧ L.map (·.1) = ns ∧ RowN w.heap.size v L w' ∧ (∀ x ∈ L, Hd w.heap.size w' x) ∧ L.Pairwise Apt
  | none => e = .returned (.tuple #[.agg #[.slice none 0 0, .int .i64 0], .int .i64 0, .int .i64 5])
abbrev zT : Array Value := #[.slice none 0 0, .int .i64 0]
abbrev rT (a : Option Addr) (n cap : Nat) : Array Value := #[.slice a n cap, .slice none 0 0, .int .i64 0]
theorem start_T (a : Option Addr) (n cap : Nat) (l : Bs) (w : World) (hB : By w a n cap l) (hn : n ≤ 4611686018427387904) :
    Jt (w.alloc (.cells zT 24)) (w.heap.size + 1) (w.heap.size + 1) (w.heap.size + 1 + 1) 0 l nl9 [] (((w.alloc (.cells zT 24)).alloc (.cells (rT a n cap) 58)).alloc (fnT (w.heap.size + 1))) := by
  obtain ⟨w1, h1⟩ : ∃ w1, w1 = w.alloc (.cells zT 24) := ⟨_, rfl⟩
  have s1 : w1.heap.size = w.heap.size + 1 := by rw [h1]; simp
  have b1 : Below w.heap.size w w1 := by rw [h1]; exact below_new w _
  rw [← h1]
  obtain ⟨w2, h2⟩ : ∃ w2, w2 = w1.alloc (.cells (rT a n cap) 58) := ⟨_, rfl⟩
  have s2 : w2.heap.size = w.heap.size + 1 + 1 := by rw [h2, World.size_alloc, s1]
  have b2 : Below w1.heap.size w1 w2 := by rw [h2]; exact below_new w1 _
  have e2 : w2.heap[w.heap.size + 1]? = some (.cells (rT a n cap) 58 (0, 0)) := by rw [h2, ← s1]; exact heap_alloc_new w1 _
  rw [← h2]
  have b3 : Below w2.heap.size w2 (w2.alloc (fnT (w.heap.size + 1))) := below_new w2 _
  have e3 : (w2.alloc (fnT (w.heap.size + 1))).heap[w.heap.size + 1]? = some (.cells (rT a n cap) 58 (0, 0)) := (b3.block _ (by omega)).trans e2
  have f3 : (w2.alloc (fnT (w.heap.size + 1))).heap[w.heap.size + 1 + 1]? = some (fnT (w.heap.size + 1)) := by rw [← s2]; exact heap_alloc_new w2 _
  have b4 : Below (w.heap.size + 1) w1 (w2.alloc (fnT (w.heap.size + 1))) := (b2.mono (by omega)).trans (b3.mono (by omega))
  have sz : w.heap.size + 1 < (w2.alloc (fnT (w.heap.size + 1))).heap.size := by rw [World.size_alloc]; omega
  generalize w2.alloc (fnT (w.heap.size + 1)) = w3 at *
  have q := fun i => cell_of_row w3 (w.heap.size + 1) i _ _ _ e3
  refine ⟨b4, f3, by omega, ⟨⟨a, n, cap, q 0, By.low (K := w.heap.size + 1) (hB.below b1) ?_ b4, ?_⟩, frozen_of e3 0, sz, Nat.le_refl _, by rw [hB.len]; exact hn⟩, q 1, q 2, fun i => frozen_of e3 i, own_nil9 _ _ _ _, fun x hx => by simp at hx, List.Pairwise.nil⟩
  · intro h0 ad e
    have := By.in hB h0 ad e
    omega
  · intro h0 ad e
    have := By.in hB h0 ad e
    omega
theorem treeP_le {l r : Bs} {z : Int} {ns : List Nd} (h : treeP l = some ((z, ns), r)) : r.length ≤ l.length := by
  rw [(treeP_un h).2, List.length_append]; omega
set_option maxHeartbeats 2000000 in
set_option maxRecDepth 100000 in
theorem getTree_any (a : Option Addr) (n cap : Nat) (l : Bs) (w : World) (hB : By w a n cap l) (hn : n ≤ 4611686018427387904) : Calls Try.prog 8 #[.slice a n cap] w (GetTR w l) := by
  have hW := hide (twhole_any _ _ _ _ l _ (start_T a n cap l w hB hn))
  have hP := hide (tparts_any (w.heap.size + 1) ((w.alloc (.cells zT 24)).alloc (.cells (rT a n cap) 58)))
  rw [World.size_alloc, World.size_alloc] at hP
  have hb1 : Hid (Below w.heap.size w (w.alloc (.cells zT 24))) := below_new w _
  have hz1 : Hid ((w.alloc (.cells zT 24)).heap[w.heap.size]? = some (.cells zT 24 (0, 0))) := heap_alloc_new w _
  have hlen : Hid (l.length = n) := hB.len
  clear hB
  go_enter Try.func8, Try.ntmps8
  go_wp2_with fail
  refine (unhide hP).mono ?_
  rintro e w1 ⟨rfl, rfl⟩
  go_wp2_with fail
  refine (unhide hW).mono ?_
  rintro e w4 (⟨rfl, hA⟩ | ⟨rfl, hbad⟩)
  · obtain ⟨z, ns, r, v, L, hg, hL, hJ⟩ := hA
    obtain ⟨a5, n5, cap5, k0, hB5, _⟩ := hJ.rd.ex
    have hn5 := hB5.len
    subst hn5
    have hz4 := (hJ.below.block _ (Nat.lt_succ_self _)).trans (unhide hz1)
    have hlt4 : w.heap.size < w4.heap.size := (Array.getElem?_eq_some_iff.1 hz4).1
    have k1 := hJ.c1
    have k2 := hJ.c2
    obtain ⟨va, vc, rfl⟩ := own_slice9 hJ.row
    have q := fun i => cell_of_row w4 w.heap.size i _ _ _ hz4
    have q0 := q 0
    have q1 := q 1
    have F9 : Fr [(⟨w.heap.size, 0, none⟩ : Addr), ⟨w.heap.size, 1, none⟩] w4 ((w4.setCell ⟨w.heap.size, 0, none⟩ (.slice va L.length vc)).setCell ⟨w.heap.size, 1, none⟩ (.int .i64 z)) := ((Fr.set w4 _ _).mono (by simp)).trans ((Fr.set _ _ _).mono (by simp))
    have hs9 : ∀ p ∈ [(⟨w.heap.size, 0, none⟩ : Addr), ⟨w.heap.size, 1, none⟩], p.block = w.heap.size := by
      intro p hp
      simp only [List.mem_cons, List.not_mem_nil, or_false] at hp
      rcases hp with rfl | rfl <;> rfl
    have b9 : Hid (Below w.heap.size w ((w4.setCell ⟨w.heap.size, 0, none⟩ (.slice va L.length vc)).setCell ⟨w.heap.size, 1, none⟩ (.int .i64 z))) := (unhide hb1).trans ((hJ.below.mono (Nat.le_succ _)).trans (F9.below (Nat.le_of_lt hlt4) (fun p hp => Nat.le_of_eq (hs9 p hp).symm)))
    have r9 : Hid (RowN w.heap.size (.slice va L.length vc) L ((w4.setCell ⟨w.heap.size, 0, none⟩ (.slice va L.length vc)).setCell ⟨w.heap.size, 1, none⟩ (.int .i64 z))) := own_base9 (own_fr9 hJ.row F9 (fun k hk p hp => by have := (own_at9 hJ.row k hk).1; rw [hs9 p hp]; omega)) (by omega)
    have o9 : Hid (∀ x ∈ L, Hd w.heap.size ((w4.setCell ⟨w.heap.size, 0, none⟩ (.slice va L.length vc)).setCell ⟨w.heap.size, 1, none⟩ (.int .i64 z)) x) := fun x hx => by
      have := (hJ.own x hx).fr F9 (fun p hp => by rw [hs9 p hp]; omega)
      exact ⟨own_base9 this.1 (by omega), own_base9 this.2 (by omega)⟩
    have c9 : ((w4.setCell ⟨w.heap.size, 0, none⟩ (.slice va L.length vc)).setCell ⟨w.heap.size, 1, none⟩ (.int .i64 z)).cell? ⟨w.heap.size, 0, none⟩ = some (.slice va L.length vc) ∧ ((w4.setCell ⟨w.heap.size, 0, none⟩ (.slice va L.length vc)).setCell ⟨w.heap.size, 1, none⟩ (.int .i64 z)).cell? ⟨w.heap.size, 1, none⟩ = some (.int .i64 z) := by
      simp [go_sem, q0, q1]
    have C9 := hide c9
    have AP := hide hJ.ap
    have f0 := frozen_of hz4 0
    have f1 := frozen_of hz4 1
    have HG := hide hg
    have HL := hide hL
    clear hJ hg hL hB5 hW hP hz1 hz4 q F9 hs9 c9
    go_wp2_with fail
    go_region
    change Exit.then _ _ Exit.normal _ (World.drew ((w4.setCell ⟨w.heap.size, 0, none⟩ (.slice va L.length vc)).setCell ⟨w.heap.size, 1, none⟩ (.int .i64 z)))
    generalize (w4.setCell ⟨w.heap.size, 0, none⟩ (.slice va L.length vc)).setCell ⟨w.heap.size, 1, none⟩ (.int .i64 z) = w9 at *
    obtain ⟨r0, r1⟩ := unhide C9
    clear C9 q0 q1 f0 f1 k0 k1 k2
    go_wp2_with fail
    refine bodyPost_ret (v := .tuple #[.agg #[.slice va L.length vc, .int .i64 z], .int .i64 (wrap64 ((n : Int) - (r.length : Int))), .int .i64 0]) ?_ rfl ⟨below_drew9 (unhide b9), ?_⟩
    · simp [results, Try.results8, go_sem, r0, r1]
    · rw [unhide HG]
      have hrl := treeP_le (unhide HG)
      rw [unhide hlen] at hrl
      have : wrap64 ((n : Int) - (r.length : Int)) = (n : Int) - (r.length : Int) := by unfold wrap64; omega
      refine ⟨_, L, by rw [this, unhide hlen], unhide HL, unhide r9, unhide o9, unhide AP⟩
  · have HB := hide hbad
    have hz4 := (hbad.1.block _ (Nat.lt_succ_self _)).trans (unhide hz1)
    have hlt4 : w.heap.size < w4.heap.size := (Array.getElem?_eq_some_iff.1 hz4).1
    have q := fun i => cell_of_row w4 w.heap.size i _ _ _ hz4
    have q0 := q 0
    have q1 := q 1
    have F9 : Fr [(⟨w.heap.size, 0, none⟩ : Addr), ⟨w.heap.size, 1, none⟩] w4 ((w4.setCell ⟨w.heap.size, 0, none⟩ (.slice none 0 0)).setCell ⟨w.heap.size, 1, none⟩ (.int .i64 0)) := ((Fr.set w4 _ _).mono (by simp)).trans ((Fr.set _ _ _).mono (by simp))
    have b9 : Hid (Below w.heap.size w ((w4.setCell ⟨w.heap.size, 0, none⟩ (.slice none 0 0)).setCell ⟨w.heap.size, 1, none⟩ (.int .i64 0))) := (unhide hb1).trans ((hbad.1.mono (Nat.le_succ _)).trans (F9.below (Nat.le_of_lt hlt4) (fun p hp => by
      simp only [List.mem_cons, List.not_mem_nil, or_false] at hp
      rcases hp with rfl | rfl <;> exact Nat.le_refl _)))
    have f0 := frozen_of hz4 0
    have f1 := frozen_of hz4 1
    clear hbad hW hP hz4 hz1 q F9
    go_wp2_with fail
    refine bodyPost_ret (v := .tuple #[.agg #[.slice none 0 0, .int .i64 0], .int .i64 0, .int .i64 5]) ?_ rfl ⟨unhide b9, ?_⟩
    · simp [results, Try.results8, go_sem, q0, q1]
    · rw [(unhide HB).2]
end Go.Proofs.Ytbofidpoajdcmab.Cd
