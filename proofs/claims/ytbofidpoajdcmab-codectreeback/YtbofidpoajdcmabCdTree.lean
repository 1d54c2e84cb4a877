/- A reader of trees: a node whole; where the reader stands. -/
import Derived.Test.YtbofidpoajdcmabCdNode3
namespace Go.Proofs.Ytbofidpoajdcmab.Cd
open Go.RowKit Cu Tr

abbrev fnN (nb : Nat) : Obj := .cells #[fnv 54 nb, fnv 55 nb, fnv 56 nb, fnv 57 nb, fnv 58 nb, fnv 59 nb] 27
set_option maxHeartbeats 400000 in
set_option maxRecDepth 100000 in
theorem nparts_any (nb : Nat) (w : World) : Calls Try.prog 48 #[rp nb] w fun e w' => e = .returned (.slice (some ⟨w.heap.size, 0, none⟩) 6 6) ∧ w' = w.alloc (fnN nb) := by
  have hmf : ∀ (fn : Fn) (first cap : Array Value) (w : World), (Instr.makeFunc fn first cap).run Try.prog w = .ok (.func fn first cap) w := fun _ _ _ _ => rfl
  go_enter Try.func48, Try.ntmps48
  go_wp2_with fail
  go_ret
  exact ⟨rfl, rfl⟩
theorem nwhole_any (ws : World) (K rb nb fb : Nat) (l : Bs) (w : World) (h : Jn 0 ws K rb nb fb l n1 w) :
    Calls Try.prog 18 #[.slice (some ⟨fb, 0, none⟩) 6 6] w (PartN 512 ws K rb nb fb l n7) := by
  let G : Nat → Nat × RestN := fun i => match i with
    | 0 => (0, n1)
    | 1 => (0, n2)
    | 2 => (0, n3)
    | 3 => (0, n4)
    | 4 => (0, n5)
    | 5 => (512, n6)
    | _ => (512, n7)
  refine areWhole_any fb 6 nodeIds (rp nb) (fun i wr => Jn (G i).1 ws K rb nb fb l (G i).2 wr) (BadN ws rb l) w rfl (by omega) ?_ (fun i wr hj => hj.fns) ?_ h
  · intro i hi args w'
    simp only [nodeIds, List.mem_cons, List.not_mem_nil, or_false] at hi
    rcases hi with rfl | rfl | rfl | rfl | rfl | rfl <;> simp [go_sem]
  · intro i id wr hid hj
    match i, hid with
    | 0, hid => simp at hid; subst hid; exact nkind_any ws K rb nb fb l wr hj
    | 1, hid => simp at hid; subst hid; exact nnums_any ws K rb nb fb l wr hj
    | 2, hid => simp at hid; subst hid; exact ndata_any ws K rb nb fb l wr hj
    | 3, hid => simp at hid; subst hid; exact ntarget_any ws K rb nb fb l wr hj
    | 4, hid => simp at hid; subst hid; exact nlist_any ws K rb nb fb l wr hj
    | 5, hid => simp at hid; subst hid; exact npar_any ws K rb nb fb l wr hj
abbrev treeIds : List Nat := [33, 34]
/-- so far as a tree is read: r is left, and the nodes L stand in v -/
structure Jt (w0 : World) (K rb fb : Nat) (now : Int) (r : Bs) (v : Value) (L : List Nv) (w : World) : Prop where
  below : Below K w0 w
  fns : Fns w fb treeIds (rp rb)
  ne : fb ≠ rb
  rd : Rd w K rb r
  c1 : w.cell? ⟨rb, 1, none⟩ = some v
  c2 : w.cell? ⟨rb, 2, none⟩ = some (.int .i64 now)
  fz : ∀ i, w.frozen? ⟨rb, i, none⟩ = false
  row : RowN (rb + 1) v L w
  own : ∀ x ∈ L, Hd (rb + 1) w x
  ap : L.Pairwise Apt
theorem Hd.fr {S : List Addr} {w w' : World} {B : Nat} {x : Nv} (h : Hd B w x) (hf : Fr S w w') (hs : ∀ p ∈ S, p.block < B) : Hd B w' x :=
  ⟨own_fr9 h.1 hf (fun k hk p hp => by have := (own_at9 h.1 k hk).1; have := hs p hp; omega), own_fr9 h.2 hf (fun k hk p hp => by have := (own_at9 h.2 k hk).1; have := hs p hp; omega)⟩
theorem Jt.frm {w0 : World} {K rb fb : Nat} {now now' : Int} {r r' : Bs} {v : Value} {L : List Nv} {w w' : World} {S : List Addr} (h : Jt w0 K rb fb now r v L w) (hf : Fr S w w') (hs : ∀ p ∈ S, p = ⟨rb, 0, none⟩ ∨ p = ⟨rb, 2, none⟩)
    (hR : Rd w' K rb r') (h2 : w'.cell? ⟨rb, 2, none⟩ = some (.int .i64 now')) : Jt w0 K rb fb now' r' v L w' := by
  have hlt := h.rd.lt
  have hlo := h.rd.lo
  have hb : ∀ p ∈ S, p.block = rb := fun p hp => (hs p hp).elim (fun e => by rw [e]) (fun e => by rw [e])
  refine ⟨h.below.trans (hf.below (by omega) (fun p hp => by rw [hb p hp]; exact hlo)), ?_, h.ne, hR, ?_, h2, fun i => (hf.frozen _ hlt).trans (h.fz i), ?_, fun x hx => (h.own x hx).fr hf (fun p hp => by rw [hb p hp]; omega), h.ap⟩
  · exact (hf.block fb (Array.getElem?_eq_some_iff.1 h.fns).1 (fun p hp e => h.ne (by rw [← e, hb p hp]))).trans h.fns
  · refine (hf.cell _ hlt (fun e => ?_)).trans h.c1
    rcases hs _ e with e | e
    · injection e with _ e _; omega
    · injection e with _ e _; omega
  · exact own_fr9 h.row hf (fun k hk p hp => by have := (own_at9 h.row k hk).1; rw [hb p hp]; omega)
theorem Jt.fr0 {w0 : World} {K rb fb : Nat} {now : Int} {r r' : Bs} {v : Value} {L : List Nv} {w w' : World} (h : Jt w0 K rb fb now r v L w) (hf : Fr [⟨rb, 0, none⟩] w w') (hR : Rd w' K rb r') : Jt w0 K rb fb now r' v L w' :=
  h.frm hf (fun p hp => .inl (List.mem_singleton.1 hp)) hR ((hf.cell _ h.rd.lt (by simp)).trans h.c2)
theorem Jt.drew {w0 : World} {K rb fb : Nat} {now : Int} {r : Bs} {v : Value} {L : List Nv} {w : World} (h : Jt w0 K rb fb now r v L w) : Jt w0 K rb fb now r v L w.drew := by
  have F : Fr [] w w.drew := (Fr.refl [] w).drew 1
  exact h.frm F (fun p hp => by simp at hp) (h.rd.fr F (by simp) (by simp)) h.c2
theorem one_nc (n : Nd) (a b : Option Addr) (i j p q : Nat) : ∀ u ∈ nc n (.slice a i p) (.slice b j q), u.oneCell' = true := by
  intro u hu
  simp only [nc, List.mem_cons, List.not_mem_nil, or_false] at hu
  rcases hu with rfl | rfl | rfl | rfl | rfl | rfl | rfl | rfl | rfl | rfl <;> rfl
theorem ten_new (w : World) (n : Nd) (d l : Value) : ∀ j u, (nc n d l)[j]? = some u → (w.alloc (.cells (nA n d l) 70)).cell? ((⟨w.heap.size, 0, none⟩ : Addr).add j) = some u := fun j u hj => by
  rw [add_none, Nat.zero_add, cell_of_row _ _ _ _ _ _ (heap_alloc_new w _)]
  simpa [nc] using hj
theorem types_ne {w : World} {a b : Nat} {c c' : Array Value} {e e' : TypeId} {f f' : Nat × Nat} (h : w.heap[a]? = some (.cells c e f)) (h' : w.heap[b]? = some (.cells c' e' f')) (hne : e ≠ e') : a ≠ b := fun q => by
  rw [q, h'] at h
  injection h with h
  injection h with _ h2 _
  exact hne h2.symm
/-- a node more in the list of a tree -/
theorem app_endT {w0 : World} {K rb fb : Nat} {now : Int} {r : Bs} {v v1 : Value} {L : List Nv} {x : Nv} {w w5 : World} {O : Obj} (h : Jt w0 K rb fb now r v L w) (hx : Hd (rb + 1) w x) (hap : ∀ y ∈ L, Apt y x)
    (hO : w5.ownsRow (rb + 1) 70 10 v1 (L.length + 1) (cellsOf L ++ nc x.1 x.2.1 x.2.2)) (hG : (w.alloc O).grownBy w5 v.ownBlock) :
    (∃ a c, v1 = .slice a (L.length + 1) c) ∧ w5.cell? ⟨rb, 1, none⟩ = some v ∧ w5.frozen? ⟨rb, 1, none⟩ = false ∧ Jt w0 K rb fb now r v1 (L ++ [x]) (w5.setCell ⟨rb, 1, none⟩ v1) := by
  have hA := below_new w O
  have hv := own_at9 h.row
  have hlt := h.rd.lt
  have hlo := h.rd.lo
  have keep : ∀ b, b < w.heap.size → some b ≠ v.ownBlock → w5.heap[b]? = w.heap[b]? := fun b hb hn => (hG.block b (Nat.lt_of_lt_of_le hb hA.size) hn).trans (hA.block b hb)
  have hrb : some rb ≠ v.ownBlock := fun q => by have := hv rb q.symm; omega
  have hfb : some fb ≠ v.ownBlock := fun q => by
    obtain ⟨cur, hc⟩ := own_ty9 h.row q.symm
    exact types_ne h.fns hc (by decide) rfl
  have hfl := (Array.getElem?_eq_some_iff.1 h.fns).1
  have k5 := keep rb hlt hrb
  have F5 := Fr.set w5 ⟨rb, 1, none⟩ v1
  have hb5 : Below rb w w5 := ⟨hG.os.trans hA.os, hG.tape.trans hA.tape, hG.output.trans hA.output, Nat.le_trans hA.size hG.size, fun b hb => keep b (by omega) (fun q => by have := hv b q.symm; omega)⟩
  have hb6 : Below rb w (w5.setCell ⟨rb, 1, none⟩ v1) := hb5.setCell (p := ⟨rb, 1, none⟩) (Nat.le_refl _) _
  have hlt5 : rb < w5.heap.size := Nat.lt_of_lt_of_le hlt (Nat.le_trans hA.size hG.size)
  have hc1 : w5.cell? ⟨rb, 1, none⟩ = some v := (World.cell?_of_block k5).trans h.c1
  have hd : ∀ y, Hd (rb + 1) w y → Hd (rb + 1) (w5.setCell ⟨rb, 1, none⟩ v1) y := fun y hy => by
    have h1 : Hd (rb + 1) w5 y := ⟨own_keep9 hy.1 (fun b hb => keep b (own_at9 hy.1 b hb).2 (fun q => by
      obtain ⟨c1, e1⟩ := own_ty9 hy.1 hb
      obtain ⟨c2, e2⟩ := own_ty9 h.row q.symm
      exact types_ne e1 e2 (by decide) rfl)), own_keep9 hy.2 (fun b hb => keep b (own_at9 hy.2 b hb).2 (fun q => by
      obtain ⟨c1, e1⟩ := own_ty9 hy.2 hb
      obtain ⟨c2, e2⟩ := own_ty9 h.row q.symm
      exact types_ne e1 e2 (by decide) rfl))⟩
    exact h1.fr F5 (fun p hp => by rw [List.mem_singleton.1 hp]; exact Nat.lt_succ_self _)
  refine ⟨own_slice9 hO, hc1, (World.frozen?_of_block k5).trans (h.fz 1), h.below.trans (hb6.mono hlo), ?_, h.ne, ?_, World.cell?_setCell_same _ _ _ hc1, ?_, fun i => (F5.frozen _ hlt5).trans ((World.frozen?_of_block k5).trans (h.fz i)), ?_, ?_, ?_⟩
  · exact (F5.block fb (Nat.lt_of_lt_of_le hfl (Nat.le_trans hA.size hG.size)) (fun p hp e => h.ne (by rw [← e, List.mem_singleton.1 hp]))).trans ((keep fb hfl hfb).trans h.fns)
  · obtain ⟨⟨a, n, cap, p1, p2, p3⟩, p4, p5, p6, p7⟩ := h.rd
    exact ⟨⟨a, n, cap, (F5.cell _ hlt5 (by simp)).trans ((World.cell?_of_block k5).trans p1), By.low p2 p3 (hb6.mono hlo), p3⟩, (F5.frozen _ hlt5).trans ((World.frozen?_of_block k5).trans p4), Nat.lt_of_lt_of_le hlt5 F5.size, p6, p7⟩
  · exact (F5.cell _ hlt5 (by simp)).trans ((World.cell?_of_block k5).trans h.c2)
  · have hO2 : RowN (rb + 1) v1 (L ++ [x]) w5 := by
      show w5.ownsRow _ _ _ _ _ _
      rw [List.length_append, cellsOf_snoc]
      exact hO
    exact own_fr9 hO2 F5 (fun b hb p hp => by have := (own_at9 hO2 b hb).1; rw [List.mem_singleton.1 hp]; show rb ≠ b; omega)
  · intro y hy
    rcases List.mem_append.1 hy with hy | hy
    · exact hd y (h.own y hy)
    · rw [List.mem_singleton.1 hy]; exact hd x hx
  · rw [List.pairwise_append]
    exact ⟨h.ap, List.pairwise_singleton _ _, fun y hy z hz => by rw [List.mem_singleton.1 hz]; exact hap y hy⟩
end Go.Proofs.Ytbofidpoajdcmab.Cd
