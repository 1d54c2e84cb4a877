/- What changed answers. -/
import Derived.Test.YtebnmjelelkcmaaBkIter
import Derived.Deep.DeepCutAuto
import Derived.Deep.CutBlock
import Derived.Laws.EntriesVeiled
import Derived.Deep.RegionHeld3
import Derived.Room.AppendFits
import Derived.Sort.LoopGhostIn
set_option linter.unusedVariables false
namespace Go.Proofs.Ytebnmjelelkcmaa.Bk
open Go.RowKit Go.Shelf Cu

attribute [local go_sem] Oper.semAt_some

def stepsV : Array Value := #[.func (.func 35) #[] #[], .func (.func 36) #[] #[], .func (.func 37) #[] #[], .func (.func 38) #[] #[]]
set_option maxHeartbeats 1000000 in
theorem changes_any (w : World) : Calls Try.prog 25 #[] w fun e w' => e = .returned (.agg stepsV) ∧ w' = w.alloc (.cells stepsV 59) := by
  unfold stepsV
  go_enter Try.func25, Try.ntmps25
  go_wp2
  exact bodyPost_ret (v := .agg stepsV) (by simp [results, Try.results25, go_sem, stepsV]) rfl ⟨rfl, rfl⟩

/-- room for n bytes, newly made -/
theorem made_room (n : Nat) (hn : n ≤ 65536) : ∃ Z : Array Value, Z.size = n ∧ ∀ W, (Instr.makeSlice 61 (.int .i64 0) (.int .i64 (n : Int))).run Try.prog W = .ok (sl W.heap.size 0 n) (W.alloc (.cells Z 5)) := by
  obtain ⟨i0, hi, hz0, hz1, hz2⟩ := info_parts Try.infoByte
  refine ⟨madeCells (Value.int .u8 0).cells (n * 1), ?_, fun W => ?_⟩
  · rw [← Array.length_toList, show (Value.int .u8 0).cells = #[.int .u8 0] from rfl, Nat.mul_one, toList_madeCells_one, List.length_replicate]
  · have h := run_makeSlice (P := Try.prog) (w := W) 61 5 i0 (.int .u8 0) Try.underlying61 hi hz0 .i64 .i64 0 (n : Int) (by omega) (by omega) (by rw [hz1]; omega) (by rw [hz2]; omega) (by omega)
    rw [h, hz1]
    rfl
theorem room_row {W : World} {g n : Nat} {Z : Array Value} (h : W.heap[g]? = some (.cells Z 5 (0, 0))) (hZ : Z.size = n) (hn : n ≤ 65536) : Row 0 (sl g 0 n) [] W :=
  ⟨rfl, .inr ⟨g, n, Z, rfl, Nat.zero_le _, h, Nat.zero_le _, by unfold maxLen; omega, by rw [hZ, Nat.mul_one], by simp [Lib.byteCells]⟩⟩
/-- the four numbers -/
def numV (p : Pl) (T : List Bs) : Array Value := #[.int .i64 (whole p.i.toNat T : Int), .int .i64 (parted p.i.toNat T : Int), .int .i64 (((went p T).length / p.o.toNat : Nat) : Int), .int .i64 ((if (went p T).length % p.o.toNat = 0 then 0 else 1 : Nat) : Int)]
/-! ### where a round stands -/
structure Mid (w : World) (b : Nat) (p : Pl) (s : ByteArray) (n N : Nat) (G : Bs) (c0 c1 : Nat) (l : Bs) (W : World) : Prop where
  pl : W.heap[b]? = some (PlO p)
  rs : W.heap[b + 1]? = some (.cells #[.int .i64 0, .int .i64 0, .int .i64 0, .int .i64 0] 26 (0, 0))
  bd : Bd W N (b + 2) G
  nm : W.heap[b + 3]? = some (.cells #[.int .i64 (c0 : Int), .int .i64 (c1 : Int), .int .i64 0, .int .i64 0] 26 (0, 0))
  st : W.heap[b + 5]? = some (.cells stepsV 59 (0, 0))
  rm : Row 0 (sl (b + 6) l.length n) l W
  rb : Boxed W (b + 7) 61 (sl (b + 6) 0 n)
  rd : Rd (b + 8) (b + 9) p s W
  be : Below b w W
section mid
variable {w : World} {b : Nat} {p : Pl} {s : ByteArray} {n N : Nat} {G : Bs} {c0 c1 : Nat} {l : Bs} {W W' : World}
theorem heap_lt {W : World} {k : Nat} {o : Obj} (h : W.heap[k]? = some o) : k < W.heap.size := (Array.getElem?_eq_some_iff.1 h).1
theorem keep_at {k r : Nat} {o : Obj} (h : W.heap[k]? = some o) (hg : W.grownBy W' (some r)) (hne : k ≠ r) : W'.heap[k]? = some o :=
  (hg.block k (heap_lt h) (fun e => hne (by injection e))).trans h
/-- objects that are no cells may turn -/
theorem Mid.grown (h : Mid w b p s n N G c0 c1 l W) {row : Option Nat} (hg : W.grownBy W' row) (hr : ∀ r, row = some r → b ≤ r ∧ ∃ o : Obj, W.heap[r]? = some o ∧ o.isCells = false) : Mid w b p s n N G c0 c1 l W' := by
  have kc : ∀ {k : Nat} {c : Array Value} {t : TypeId} {z : Nat × Nat}, W.heap[k]? = some (.cells c t z) → W'.heap[k]? = some (.cells c t z) := by
    intro k c t z hk
    refine (hg.block k (heap_lt hk) (fun e => ?_)).trans hk
    obtain ⟨_, o, ho, hc⟩ := hr k e.symm
    rw [hk] at ho
    injection ho with ho
    subst ho
    cases hc
  have kr : ∀ {B : Nat} {v : Value} {r : Bs}, Row B v r W → Row B v r W' := by
    intro B v r hR
    refine hR.kept hg ?_
    cases ho : v.ownBlock with
    | none => exact .inl rfl
    | some k =>
      refine .inr (fun e => ?_)
      obtain ⟨_, cur, hc⟩ := row_blk hR k ho
      obtain ⟨_, o, ho', hc'⟩ := hr k e.symm
      rw [hc] at ho'
      injection ho' with ho'
      subst ho'
      cases hc'
  obtain ⟨q, v, hq, hb, hv⟩ := h.bd
  exact ⟨kc h.pl, kc h.rs, ⟨q, v, hq, kc hb, kr hv⟩, kc h.nm, kc h.st, kr h.rm, kc h.rb, ⟨kc h.rd.1, kc h.rd.2⟩, h.be.grown hg (by have := heap_lt h.pl; omega) (fun k e => (hr k e).1)⟩
theorem Mid.nums (h : Mid w b p s n N G c0 c1 l W) (hN : b + 10 ≤ N) {d0 d1 : Nat} (hg : W.grownBy W' (some (b + 3))) (h3 : W'.heap[b + 3]? = some (.cells #[.int .i64 (d0 : Int), .int .i64 (d1 : Int), .int .i64 0, .int .i64 0] 26 (0, 0))) : Mid w b p s n N G d0 d1 l W' := by
  obtain ⟨q, v, hq, hb, hv⟩ := h.bd
  have h3' := h.nm
  refine ⟨keep_at h.pl hg (by omega), keep_at h.rs hg (by omega), ⟨q, v, hq, keep_at hb hg (by omega), hv.kept hg ?_⟩, h3, keep_at h.st hg (by omega), h.rm.kept hg (.inr (by simp [Value.ownBlock])), keep_at h.rb hg (by omega), ⟨keep_at h.rd.1 hg (by omega), keep_at h.rd.2 hg (by omega)⟩, h.be.grown hg (by have := heap_lt h.pl; omega) (fun k e => by injection e; omega)⟩
  cases ho : v.ownBlock with
  | none => exact .inl rfl
  | some k => exact .inr (fun e => by have := (row_blk hv k ho).1; injection e; omega)
theorem Mid.room (h : Mid w b p s n N G c0 c1 l W) (hN : b + 10 ≤ N) {l' : Bs} (hg : W.grownBy W' (some (b + 6))) (h6 : Row 0 (sl (b + 6) l'.length n) l' W') : Mid w b p s n N G c0 c1 l' W' := by
  obtain ⟨q, v, hq, hb, hv⟩ := h.bd
  refine ⟨keep_at h.pl hg (by omega), keep_at h.rs hg (by omega), ⟨q, v, hq, keep_at hb hg (by omega), hv.kept hg ?_⟩, keep_at h.nm hg (by omega), keep_at h.st hg (by omega), h6, keep_at h.rb hg (by omega), ⟨keep_at h.rd.1 hg (by omega), keep_at h.rd.2 hg (by omega)⟩, h.be.grown hg (by have := heap_lt h.pl; omega) (fun k e => by injection e; omega)⟩
  cases ho : v.ownBlock with
  | none => exact .inl rfl
  | some k => exact .inr (fun e => by have := (row_blk hv k ho).1; injection e; omega)
theorem Mid.wrote (h : Mid w b p s n N G c0 c1 l W) (hN : b + 10 ≤ N) {G' : Bs} (hB : But N (b + 2) W W') (h2 : Bd W' N (b + 2) G') : Mid w b p s n N G' c0 c1 l W' := by
  have kp : ∀ {k : Nat} {o : Obj}, W.heap[k]? = some o → k < N → k ≠ b + 2 → W'.heap[k]? = some o := fun hk h1 h3 => (hB.block _ h1 (heap_lt hk) h3).trans hk
  refine ⟨kp h.pl (by omega) (by omega), kp h.rs (by omega) (by omega), h2, kp h.nm (by omega) (by omega), kp h.st (by omega) (by omega), ?_, kp h.rb (by omega) (by omega), ⟨kp h.rd.1 (by omega) (by omega), kp h.rd.2 (by omega) (by omega)⟩, ?_⟩
  · refine ⟨h.rm.1, ?_⟩
    rcases h.rm.2 with hn | ⟨g, cap, cur, hv, hb, hg, rest⟩
    · exact .inl hn
    · have : g = b + 6 := by injection hv with e1; injection e1 with e1; injection e1 with e1; exact e1.symm
      exact .inr ⟨g, cap, cur, hv, hb, kp hg (by omega) (by omega), rest⟩
  · exact ⟨hB.os.trans h.be.os, hB.tape.trans h.be.tape, hB.output.trans h.be.output, Nat.le_trans h.be.size hB.size, fun k hk => (hB.block k (by omega) (by have := heap_lt h.pl; omega) (by omega)).trans (h.be.block k hk)⟩
theorem Mid.empty (h : Mid w b p s n N G c0 c1 l W) : Mid w b p s n N G c0 c1 [] W := { h with rm := row_zero h.rm }
theorem stays_grown {B r : Nat} (hg : W.grownBy W' (some r)) (hN : N ≤ W.heap.size) (hr : r < B) : Rng.Stays B N W W' := Rng.Stays.grown hg hN (fun k e => by injection e; omega)
theorem stays_but {B r : Nat} (hB : But N r W W') (hN : N ≤ W.heap.size) (hr : r < B) : Rng.Stays B N W W' := ⟨hB.size, fun k h1 h2 => hB.block k h2 (by omega) (by omega)⟩
end mid

/-- behind the loop: the four numbers at b + 3, the builder, the answer's own cells, the calls that were put off -/
structure Tl (w : World) (b N : Nat) (G : Bs) (c0 c1 c2 c3 q : Nat) (W : World) : Prop where
  d1 : W.cell? ⟨b, 1, none⟩ = some (.int .i64 (q : Int))
  rs : W.heap[b + 1]? = some (.cells #[.int .i64 0, .int .i64 0, .int .i64 0, .int .i64 0] 26 (0, 0))
  bd : Bd W N (b + 2) G
  nm : W.heap[b + 3]? = some (.cells #[.int .i64 (c0 : Int), .int .i64 (c1 : Int), .int .i64 (c2 : Int), .int .i64 (c3 : Int)] 26 (0, 0))
  df : W.heap[b + 10]? = some (.deferred (some []))
  be : Below b w W
  hN : b + 10 ≤ N
theorem Tl.drew {w : World} {b N : Nat} {G : Bs} {c0 c1 c2 c3 q : Nat} {W : World} (h : Tl w b N G c0 c1 c2 c3 q W) : Tl w b N G c0 c1 c2 c3 q W.drew :=
  ⟨h.d1, h.rs, h.bd, h.nm, h.df, ⟨h.be.os, h.be.tape, h.be.output, h.be.size, h.be.block⟩, h.hN⟩
theorem Tl.nums {w : World} {b N : Nat} {G : Bs} {c0 c1 c2 c3 q : Nat} {W W' : World} (h : Tl w b N G c0 c1 c2 c3 q W) {d0 d1 d2 d3 : Nat} (hg : W.grownBy W' (some (b + 3))) (h3 : W'.heap[b + 3]? = some (.cells #[.int .i64 (d0 : Int), .int .i64 (d1 : Int), .int .i64 (d2 : Int), .int .i64 (d3 : Int)] 26 (0, 0))) : Tl w b N G d0 d1 d2 d3 q W' := by
  obtain ⟨z, v, hq, hb, hv⟩ := h.bd
  have hN := h.hN
  refine ⟨?_, keep_at h.rs hg (by omega), ⟨z, v, hq, keep_at hb hg (by omega), hv.kept hg ?_⟩, h3, keep_at h.df hg (by omega), h.be.grown hg (by have := heap_lt h.rs; omega) (fun k e => by injection e; omega), hN⟩
  · rw [World.cell?_of_block (a := ⟨b, 1, none⟩) (hg.block b (by have := heap_lt h.rs; omega) (fun e => by injection e; omega))]
    exact h.d1
  · cases ho : v.ownBlock with
    | none => exact .inl rfl
    | some k => exact .inr (fun e => by have := (row_blk hv k ho).1; injection e; omega)
theorem Tl.two {w : World} {b N : Nat} {G : Bs} {c0 c1 c2 c3 q : Nat} {W : World} (h : Tl w b N G c0 c1 c2 c3 q W) (v : Nat) : Tl w b N G c0 c1 v c3 q (W.setCell ⟨b + 3, 2, none⟩ (.int .i64 (v : Int))).drew :=
  (h.nums (grown_set _ _ _ _) (heap_setCell_same W (b + 3) 2 _ _ _ h.nm)).drew
theorem Tl.three {w : World} {b N : Nat} {G : Bs} {c0 c1 c2 c3 q : Nat} {W : World} (h : Tl w b N G c0 c1 c2 c3 q W) (v : Nat) : Tl w b N G c0 c1 c2 v q (W.setCell ⟨b + 3, 3, none⟩ (.int .i64 (v : Int))) :=
  h.nums (grown_set _ _ _ _) (heap_setCell_same W (b + 3) 3 _ _ _ h.nm)
theorem tl_of {w : World} {b n N q : Nat} {i sk ct se : Int} {kp sw up lo sy : Bool} {s : ByteArray} {G : Bs} {c0 c1 : Nat} {l : Bs} {W : World} (h : Mid w b ⟨i, q, sk, ct, se, kp, sw, up, lo, sy⟩ s n N G c0 c1 l W) (hd : W.heap[b + 10]? = some (.deferred (some []))) (hN : b + 10 ≤ N) : Tl w b N G c0 c1 0 0 q W := by
  refine ⟨?_, h.rs, h.bd, h.nm, hd, h.be, hN⟩
  have h1 : W.heap[b]? = some (.cells #[.int .i64 i, .int .i64 q, .int .i64 sk, .int .i64 ct, .int .i64 se, .bool kp, .bool sw, .bool up, .bool lo, .bool sy] 23 (0, 0)) := h.pl
  rw [Lib.cell_of_heap h1]
  rfl
/-- behind String -/
structure Te (w : World) (b c0 c1 c2 c3 : Nat) (W : World) : Prop where
  rs : W.heap[b + 1]? = some (.cells #[.int .i64 0, .int .i64 0, .int .i64 0, .int .i64 0] 26 (0, 0))
  nm : W.heap[b + 3]? = some (.cells #[.int .i64 (c0 : Int), .int .i64 (c1 : Int), .int .i64 (c2 : Int), .int .i64 (c3 : Int)] 26 (0, 0))
  df : W.heap[b + 10]? = some (.deferred (some []))
  be : Below b w W
theorem Tl.after {w : World} {b N : Nat} {G : Bs} {c0 c1 c2 c3 q : Nat} {W W' : World} (h : Tl w b N G c0 c1 c2 c3 q W) (hb : Below (b + 10) W W') (hk : Keep8 W W') : Te w b c0 c1 c2 c3 W' :=
  ⟨(hb.block _ (by omega)).trans h.rs, (hb.block _ (by omega)).trans h.nm, (hk _ (heap_lt h.df) (fun cs fz e => by rw [h.df] at e; cases e)).trans h.df, h.be.trans (hb.mono (by omega))⟩
def S4 (b c0 c1 c2 c3 : Nat) (W : World) : Prop := W.cell? ⟨b + 3, 0, none⟩ = some (.int .i64 (c0 : Int)) ∧ W.cell? ⟨b + 3, 1, none⟩ = some (.int .i64 (c1 : Int)) ∧ W.cell? ⟨b + 3, 2, none⟩ = some (.int .i64 (c2 : Int)) ∧ W.cell? ⟨b + 3, 3, none⟩ = some (.int .i64 (c3 : Int))
theorem Te.fin {w : World} {b c0 c1 c2 c3 : Nat} {W : World} (h : Te w b c0 c1 c2 c3 W) {v0 v1 v2 v3 : Value} {W9 : World} (e : W9 = (((W.setCell ⟨b + 1, 0, none⟩ v0).setCell ⟨b + 1, 1, none⟩ v1).setCell ⟨b + 1, 2, none⟩ v2).setCell ⟨b + 1, 3, none⟩ v3) :
    W9.heap[b + 1]? = some (.cells #[v0, v1, v2, v3] 26 (0, 0)) ∧ W9.heap[b + 10]? = some (.deferred (some [])) ∧ Below b w W9 := by
  subst e
  refine ⟨?_, ?_, ?_⟩
  · exact heap_setCell_same _ (b + 1) 3 _ _ _ (heap_setCell_same _ (b + 1) 2 _ _ _ (heap_setCell_same _ (b + 1) 1 _ _ _ (heap_setCell_same _ (b + 1) 0 _ _ _ h.rs)))
  · rw [heap_setCell_other _ _ _ _ (by simp), heap_setCell_other _ _ _ _ (by simp), heap_setCell_other _ _ _ _ (by simp), heap_setCell_other _ _ _ _ (by simp)]
    exact h.df
  · exact (((h.be.setCell (p := ⟨b + 1, 0, none⟩) (by simp) _).setCell (p := ⟨b + 1, 1, none⟩) (by simp) _).setCell (p := ⟨b + 1, 2, none⟩) (by simp) _).setCell (p := ⟨b + 1, 3, none⟩) (by simp) _
/-- the start of the loop -/
def start (w : World) (p : Pl) (s : ByteArray) (n : Nat) (Z : Array Value) : World :=
  (((((((((w.alloc (.cells (plC p) 23)).alloc (.cells #[.int .i64 0, .int .i64 0, .int .i64 0, .int .i64 0] 26)).alloc (.cells #[.pointer none, .slice none 0 0] 56)).alloc (.cells #[.int .i64 0, .int .i64 0, .int .i64 0, .int .i64 0] 26)).alloc (.cells stepsV 59)).alloc (.cells stepsV 59)).alloc (.cells Z 5)).alloc (.cells #[sl (w.heap.size + 6) 0 n] 61)).alloc (PlO p)).alloc (.cells #[.string s] 9)
theorem start_size (w : World) (p : Pl) (s : ByteArray) (n : Nat) (Z : Array Value) : (start w p s n Z).heap.size = w.heap.size + 10 := by simp [start]
theorem start_at (w : World) (p : Pl) (s : ByteArray) (n : Nat) (Z : Array Value) (k : Nat) : (start w p s n Z).heap[w.heap.size + k]? = [Obj.cells (plC p) 23 (0, 0), .cells #[.int .i64 0, .int .i64 0, .int .i64 0, .int .i64 0] 26 (0, 0), .cells #[.pointer none, .slice none 0 0] 56 (0, 0), .cells #[.int .i64 0, .int .i64 0, .int .i64 0, .int .i64 0] 26 (0, 0), .cells stepsV 59 (0, 0), .cells stepsV 59 (0, 0), .cells Z 5 (0, 0), .cells #[sl (w.heap.size + 6) 0 n] 61 (0, 0), PlO p, .cells #[.string s] 9 (0, 0)][k]? := by
  have e : (start w p s n Z).heap.toList = w.heap.toList ++ [Obj.cells (plC p) 23 (0, 0), .cells #[.int .i64 0, .int .i64 0, .int .i64 0, .int .i64 0] 26 (0, 0), .cells #[.pointer none, .slice none 0 0] 56 (0, 0), .cells #[.int .i64 0, .int .i64 0, .int .i64 0, .int .i64 0] 26 (0, 0), .cells stepsV 59 (0, 0), .cells stepsV 59 (0, 0), .cells Z 5 (0, 0), .cells #[sl (w.heap.size + 6) 0 n] 61 (0, 0), PlO p, .cells #[.string s] 9 (0, 0)] := by
    simp [start, World.alloc, -World.alloc_eq]
  rw [← Array.getElem?_toList, e, List.getElem?_append_right (by simp)]
  simp
theorem start_mid (w : World) (p : Pl) (s : ByteArray) (n : Nat) (Z : Array Value) (hZ : Z.size = n) (hn : n ≤ 65536) (N : Nat) : Mid w w.heap.size p s n N [] 0 0 [] (start w p s n Z) := by
  have h := start_at w p s n Z
  refine ⟨h 0, h 1, ⟨_, _, .inl rfl, h 2, World.ownsRow_nil _ _ _ _⟩, h 3, h 5, room_row (h 6) hZ hn, h 7, ⟨h 8, h 9⟩, ?_⟩
  unfold start
  exact ((((((((((Below.refl _ w).alloc (Nat.le_refl _) _).alloc (by simp) _).alloc (by simp; omega) _).alloc (by simp; omega) _).alloc (by simp; omega) _).alloc (by simp; omega) _).alloc (by simp; omega) _).alloc (by simp; omega) _).alloc (by simp; omega) _).alloc (by simp; omega) _
theorem wpListIn_fits_string {F : Fence} {m : Nat} (w : World) {ops : Array Oper} {rest : List Oper} {o : Oper} {a : Act} {Q : Exit → Act → World → Prop} (hgd : o.guard = none) (x y : Operand)
    (ho : o.op = .call { callee := .builtin .append, args := #[x, y], argTypes := #[61, 9] }) (g n : Nat) (l : Bs) (hs : a.eval x = sl g l.length n) (hown : Row 0 (sl g l.length n) l w) (s : ByteArray) (hx : a.eval y = .string s) (h1 : 0 < n) (hroom : l.length + s.size ≤ n)
    (h : ∀ w', Row 0 (sl g (l ++ bs s).length n) (l ++ bs s) w' → w.grownBy w' (some g) → wpListIn F m Try.prog ops Q rest (a.put o.dst (sl g (l.length + s.size) n)) w') : wpListIn F m Try.prog ops Q (o :: rest) a w := by
  obtain ⟨i0, hi, hz0, hz1, hz2⟩ := info_parts Try.infoByte
  refine wpListIn_plain hgd fun K hK' => ?_
  obtain ⟨w', hrun, r1, r2⟩ := Lib.run_append_fits_string (P := Try.prog) w 0 61 9 o.type 5 i0 Try.underlying61 Try.underlying9 hi hz1 (some ⟨g, 0, none⟩) l.length n _ hown s h1 hroom
  have r1' : Row 0 (sl g (l ++ bs s).length n) (l ++ bs s) w' := by
    rw [str_cells, cells_app] at r1
    rw [List.length_append]
    unfold Row
    rw [List.length_append]
    exact r1
  unfold Oper.wpIn
  refine ⟨?_, ?_⟩
  · simp [Oper.about, ho, resolve, Target.leads, Sem.run_pure]
  · rw [Oper.semAt_plain F _ _ (by rw [ho]; intro c hc'; cases hc')]
    simp [execOp, ho, resolve, invoke, builtin, hs, hx, hrun, Result.andThen]
    exact hK' _ _ (h w' r1' r2)
theorem callsIn_round {l n : Nat} {P : Program} {f : FuncId} {args : Array Value} {w : World} {R : Ending → World → Prop} (h : Calls P f args w R) : CallsIn (Fence.wide.inRound l) n P f args w R := (callsIn_wide (n := n)).2 h
theorem round_ok (m : Nat) : Fence.wide.depth.isSome = true → 1 ≤ m := fun h => by simp [Fence.wide] at h
theorem index_steps (w : World) : (Instr.index 59 (.agg stepsV) (.int .i64 0)).run Try.prog w = .ok (.func (.func 35) #[] #[]) w ∧ (Instr.index 59 (.agg stepsV) (.int .i64 1)).run Try.prog w = .ok (.func (.func 36) #[] #[]) w
    ∧ (Instr.index 59 (.agg stepsV) (.int .i64 2)).run Try.prog w = .ok (.func (.func 37) #[] #[]) w ∧ (Instr.index 59 (.agg stepsV) (.int .i64 3)).run Try.prog w = .ok (.func (.func 38) #[] #[]) w := by
  refine ⟨?_, ?_, ?_, ?_⟩ <;> simp [Instr.index, stepsV, run_underlying Try.underlying59, asIntOf, go_sem, Try.sizeOf58, part, Try.isAgg58]
/-- what a block is behind k steps -/
def stg (p : Pl) (x : Bs) : Nat → Bs
  | 0 => x
  | 1 => b1P p x
  | 2 => b2P p (b1P p x)
  | 3 => b3P p (b2P p (b1P p x))
  | _ => bec p x
theorem stg_len (p : Pl) (x : Bs) (h : x.length ≤ p.i.toNat) : ∀ k, (stg p x k).length ≤ p.i.toNat
  | 0 => h
  | 1 => b1_len p x h
  | 2 => by show (b2P p _).length ≤ _; rw [b2_len]; exact b1_len p x h
  | 3 => by show (b3P p _).length ≤ _; rw [b3_len, b2_len]; exact b1_len p x h
  | _ + 4 => by show (bec p x).length ≤ _; rw [bec_len1]; exact b1_len p x h
theorem Says.at {f : Nat} {φ : Pl → Bs → Bs} (h : Says f φ) {n g : Nat} {o sk ct se : Int} {kp sw up lo sy : Bool} {l : Bs} {W : World} (hR : Row 0 (sl g l.length n) l W) (h1 : 1 ≤ (n : Int)) (h2 : (n : Int) ≤ 65536) (hl : l.length ≤ n) :
    Calls Try.prog f #[sl g l.length n, .agg #[.int .i64 n, .int .i64 o, .int .i64 sk, .int .i64 ct, .int .i64 se, .bool kp, .bool sw, .bool up, .bool lo, .bool sy]] W fun e w' =>
      e = .returned (sl g (φ ⟨n, o, sk, ct, se, kp, sw, up, lo, sy⟩ l).length n) ∧ Row 0 (sl g (φ ⟨n, o, sk, ct, se, kp, sw, up, lo, sy⟩ l).length n) (φ ⟨n, o, sk, ct, se, kp, sw, up, lo, sy⟩ l) w' ∧ W.grownBy w' (some g) :=
  h 0 g l ⟨n, o, sk, ct, se, kp, sw, up, lo, sy⟩ W hR h1 h2 hl
theorem pl_cells {W : World} {b : Nat} {i o sk ct se : Int} {kp sw up lo sy : Bool} (h : W.heap[b]? = some (PlO ⟨i, o, sk, ct, se, kp, sw, up, lo, sy⟩)) :
    W.cell? ⟨b, 0, none⟩ = some (.int .i64 i) ∧ W.cell? ⟨b, 1, none⟩ = some (.int .i64 o) ∧ W.cell? ⟨b, 2, none⟩ = some (.int .i64 sk) ∧ W.cell? ⟨b, 3, none⟩ = some (.int .i64 ct) ∧ W.cell? ⟨b, 4, none⟩ = some (.int .i64 se) ∧
    W.cell? ⟨b, 5, none⟩ = some (.bool kp) ∧ W.cell? ⟨b, 6, none⟩ = some (.bool sw) ∧ W.cell? ⟨b, 7, none⟩ = some (.bool up) ∧ W.cell? ⟨b, 8, none⟩ = some (.bool lo) ∧ W.cell? ⟨b, 9, none⟩ = some (.bool sy) := by
  have h1 : W.heap[b]? = some (.cells #[.int .i64 i, .int .i64 o, .int .i64 sk, .int .i64 ct, .int .i64 se, .bool kp, .bool sw, .bool up, .bool lo, .bool sy] 23 (0, 0)) := h
  refine ⟨?_, ?_, ?_, ?_, ?_, ?_, ?_, ?_, ?_, ?_⟩ <;> (rw [Lib.cell_of_heap h1]; rfl)
theorem four_cells {W : World} {b : Nat} {v0 v1 v2 v3 : Value} {t : TypeId} (h : W.heap[b]? = some (.cells #[v0, v1, v2, v3] t (0, 0))) :
    W.cell? ⟨b, 0, none⟩ = some v0 ∧ W.cell? ⟨b, 1, none⟩ = some v1 ∧ W.cell? ⟨b, 2, none⟩ = some v2 ∧ W.cell? ⟨b, 3, none⟩ = some v3 ∧ ∀ j, W.frozen? ⟨b, j, none⟩ = false := by
  refine ⟨?_, ?_, ?_, ?_, Lib.frozen_of_heap h⟩ <;> (rw [Lib.cell_of_heap h]; rfl)
theorem Mid.num0 {w : World} {b : Nat} {p : Pl} {s : ByteArray} {n N : Nat} {G : Bs} {c0 c1 : Nat} {l : Bs} {W : World} (h : Mid w b p s n N G c0 c1 l W) (hN : b + 10 ≤ N) : Mid w b p s n N G (c0 + 1) c1 l (W.setCell ⟨b + 3, 0, none⟩ (.int .i64 ((c0 : Int) + 1))) :=
  h.nums hN (grown_set _ _ _ _) (heap_setCell_same W (b + 3) 0 _ _ _ h.nm)
theorem Mid.num1 {w : World} {b : Nat} {p : Pl} {s : ByteArray} {n N : Nat} {G : Bs} {c0 c1 : Nat} {l : Bs} {W : World} (h : Mid w b p s n N G c0 c1 l W) (hN : b + 10 ≤ N) : Mid w b p s n N G c0 (c1 + 1) l (W.setCell ⟨b + 3, 1, none⟩ (.int .i64 ((c1 : Int) + 1))) :=
  h.nums hN (grown_set _ _ _ _) (heap_setCell_same W (b + 3) 1 _ _ _ h.nm)

theorem res_changed {X : World} {b : Nat} {tmps : Array Value} {s : ByteArray} {v0 v1 v2 v3 : Value} (h : X.heap[b + 1]? = some (.cells #[v0, v1, v2, v3] 26 (0, 0))) (h4 : tmps.getD 4 undef = .string s) (h5 : tmps.getD 5 undef = .pointer (some ⟨b + 1, 0, none⟩)) :
    (results Try.f17 tmps).run Try.prog X = .ok (.tuple #[.string s, .agg #[v0, v1, v2, v3]]) X := by
  obtain ⟨c0, c1, c2, c3, _⟩ := four_cells h
  simp only [Array.getD_eq_getD_getElem?] at h4 h5
  simp [results, Try.results17, h4, h5, go_sem, c0, c1, c2, c3]
set_option maxRecDepth 100000 in
set_option maxHeartbeats 2000000 in
theorem changed_any (p : Pl) (s : ByteArray) (w : World) (hok : okP p = true) (hs : s.size ≤ 1048576) :
    Calls Try.prog 17 #[.agg (plC p), .string s] w fun e w' => e = .returned (.tuple #[.string (bt (went p (tkn p (bs s)))), .agg (numV p (tkn p (bs s)))]) ∧ Below w.heap.size w w' := by
  obtain ⟨i, o, sk, ct, se, kp, sw, up, lo, sy⟩ := p
  obtain ⟨⟨h1, h2⟩, ⟨h3, h4⟩, ⟨h5, h6⟩, ⟨h7, h8⟩, h9⟩ := (okP_iff _).1 hok
  simp only at h1 h2 h3 h4 h5 h6 h7 h8 h9
  obtain ⟨n, rfl⟩ : ∃ n : Nat, i = n := ⟨i.toNat, by omega⟩
  refine (callsIn_wide (n := 3)).1 ?_
  refine callsIn_of_wp_marks Try.func17 rfl trivial ?_ rfl
  unfold plC
  simp only [Try.ntmps17, List.size_toArray, List.length_cons, List.length_nil, Nat.reduceAdd, Nat.reduceSub, Array.replicate_succ, Array.replicate_zero, List.push_toArray, List.append_toArray, List.nil_append, List.cons_append]
  obtain ⟨Z, hZ, hmk⟩ := made_room n (by omega)
  have HZ := hide hZ
  clear hZ
  gi_wp2_with (first | (refine ⟨trivial, ?_⟩; gi_at_call 25; refine (callsIn_wide.2 (changes_any _)).mono ?_; rintro e w' ⟨rfl, rfl⟩; unfold stepsV) | (refine ⟨trivial, ?_⟩; gi_at_call 26; refine (callsIn_wide.2 (taken_any ⟨n, o, sk, ct, se, kp, sw, up, lo, sy⟩ s _)).mono ?_; rintro e w' ⟨rfl, rfl⟩))
  simp only [Nat.add_assoc, Nat.reduceAdd]
  change Code.wpIn Fence.wide 3 Try.prog _ _ _ (start w ⟨n, o, sk, ct, se, kp, sw, up, lo, sy⟩ s n Z)
  have hM0 := fun N => start_mid w ⟨n, o, sk, ct, se, kp, sw, up, lo, sy⟩ s n Z (unhide HZ) (by omega) N
  have hsz := start_size w ⟨n, o, sk, ct, se, kp, sw, up, lo, sy⟩ s n Z
  generalize start w ⟨n, o, sk, ct, se, kp, sw, up, lo, sy⟩ s n Z = W0 at *
  have hmem := tkn_mem ⟨n, o, sk, ct, se, kp, sw, up, lo, sy⟩ (bs s) h1
  have hlen := tkn_len ⟨n, o, sk, ct, se, kp, sw, up, lo, sy⟩ (bs s) h1
  rw [bs_len] at hlen
  refine Rng.range (gf := 39) (lb := #[.pointer (some ⟨w.heap.size + 8, 0, none⟩), .pointer (some ⟨w.heap.size + 9, 0, none⟩)]) rfl (enters_of Try.func39 (by kernel_rfl) rfl)
    (taken_itr (w.heap.size + 8) (w.heap.size + 9) ⟨n, o, sk, ct, se, kp, sw, up, lo, sy⟩ s h1 h2 h5 h6 hs (Rd (w.heap.size + 8) (w.heap.size + 9) ⟨n, o, sk, ct, se, kp, sw, up, lo, sy⟩ s) (fun _ h => h)) (fun _ => rfl)
    (fun N pre W => Mid w w.heap.size ⟨n, o, sk, ct, se, kp, sw, up, lo, sy⟩ s n N (went ⟨n, o, sk, ct, se, kp, sw, up, lo, sy⟩ pre) (whole n pre) (parted n pre) [] W)
    (fun _ _ _ _ => False)
    (fun N pre A B row h hg hr => h.grown hg (fun r e => ⟨by have := (hr r e).1; omega, (hr r e).2⟩))
    (fun _ _ _ _ _ _ hs _ _ => hs) (fun _ _ _ h => h.rd)
    (fun N => hM0 N)
    (fun x => { tmps := #[.agg #[.int .i64 n, .int .i64 o, .int .i64 sk, .int .i64 ct, .int .i64 se, .bool kp, .bool sw, .bool up, .bool lo, .bool sy], .string s, .pointer (some ⟨w.heap.size, 0, none⟩), undef, .string ⟨#[]⟩, .pointer (some ⟨w.heap.size + 1, 0, none⟩), .pointer (some ⟨w.heap.size + 2, 0, none⟩), .pointer (some ⟨w.heap.size + 3, 0, none⟩), .pointer (some ⟨w.heap.size + 5, 0, none⟩), .pointer (some ⟨w.heap.size + 7, 0, none⟩),
      .string (bt x), undef, undef, undef, .agg stepsV, .pointer (some ⟨w.heap.size, 0, none⟩), .int .i64 n, sl (w.heap.size + 6) 0 n, .agg #[.int .i64 n, .int .i64 o, .int .i64 sk, .int .i64 ct, .int .i64 se, .bool kp, .bool sw, .bool up, .bool lo, .bool sy], .string s, .func (.func 39) #[] #[.pointer (some ⟨w.heap.size + 8, 0, none⟩), .pointer (some ⟨w.heap.size + 9, 0, none⟩)], .string (bt x),
      undef, undef, undef, undef, undef, undef, undef, undef, undef, undef, undef, undef, undef, undef, undef, undef, undef, undef, undef, undef, undef, undef, undef, undef, undef, undef, undef, undef, undef, undef, undef, undef, undef, undef, undef, undef, undef, undef, undef, undef], defers := [] }) ?assign ?body ?done ?stop
  case assign =>
    intro m l x W K hK
    simp only [encS]
    gi_wp2
    exact hK
  case body =>
    rintro m l N pre x W hM hpre hN1 hN2
    rw [hsz] at hN1
    have hxm := hmem x (hpre.subset (by simp))
    have hx1 : 1 ≤ x.length := hxm.1
    have hx2 : x.length ≤ n := hxm.2
    have hpl : pre.length ≤ 1048576 := by have := hpre.length_le; simp at this; omega
    have hGl : (went ⟨n, o, sk, ct, se, kp, sw, up, lo, sy⟩ pre).length ≤ 70000000000 := by
      have h := went_len ⟨n, o, sk, ct, se, kp, sw, up, lo, sy⟩ pre (fun b hb => (hmem b (hpre.subset (by simp [hb]))).2)
      have : (n : Nat) * pre.length ≤ 65536 * 1048576 := Nat.mul_le_mul (by omega) hpl
      exact Nat.le_trans h (by show n * pre.length ≤ _; omega)
    have hwl := whole_le n pre
    have hpp := parted_le n pre
    have hbs : (bt x).size = x.length := rfl
    obtain ⟨d0, d1, d2, d3, d4, d5, d6, d7, d8, d9⟩ := pl_cells hM.pl
    obtain ⟨n0, n1, _, _, nf⟩ := four_cells hM.nm
    have r7 := hM.rb.cell
    have x0 := fun w => (index_steps w).1
    have x1 := fun w => (index_steps w).2.1
    have x2 := fun w => (index_steps w).2.2.1
    have x3 := fun w => (index_steps w).2.2.2
    unfold stepsV at x0 x1 x2 x3
    clear hxm hmem hpre hlen hmk
    by_cases hx : x.length = n
    · have hxb : ((x.length : Int) == (n : Int)) = true := by simp [hx]
      replace hx := hide hx
      have HM1 := hide (hM.num0 (by omega))
      have HS1 : Hid (Rng.Stays W0.heap.size N W (W.setCell ⟨w.heap.size + 3, 0, none⟩ (.int .i64 (((whole n pre : Nat) : Int) + 1)))) := stays_grown (grown_set _ _ _ _) hN2 (by omega)
      have HSZ : Hid (N ≤ (W.setCell ⟨w.heap.size + 3, 0, none⟩ (.int .i64 (((whole n pre : Nat) : Int) + 1))).heap.size) := by show N ≤ _; simp; exact hN2
      gi_wp2_with (gi_at_builtin; refine wpListIn_fits_string _ rfl _ _ rfl (w.heap.size + 6) n [] rfl (unhide HM1).rm (bt x) rfl (by omega) (by rw [hbs]; simp; exact hx2) ?_; intro w2 hR2 hg2; have HM2 := hide ((unhide HM1).room (by omega) (l' := x) hg2 (by simpa [bt] using hR2)); have HS2 : Hid (Rng.Stays W0.heap.size N W w2) := (unhide HS1).trans (stays_grown hg2 (unhide HSZ) (by omega)); have HSZ2 : Hid (N ≤ w2.heap.size) := Nat.le_trans (unhide HSZ) hg2.size; clear d0 d1 d2 d3 d4 d5 d6 d7 d8 d9 n0 n1 nf r7 hR2 hg2; obtain ⟨s0, s1, s2, s3, _⟩ := four_cells (unhide HM2).st)
      clear HM1 HS1 HSZ s0 s1 s2 s3
      gi_loopw [11, 39] (fun v i wr => ∃ (k : Nat) (y : Int), i = .int .i64 y ∧ Hid (y = (k : Int)) ∧ k ≤ 4 ∧ v = sl (w.heap.size + 6) (stg ⟨n, o, sk, ct, se, kp, sw, up, lo, sy⟩ x k).length n ∧ Hid (Mid w w.heap.size ⟨n, o, sk, ct, se, kp, sw, up, lo, sy⟩ s n N (went ⟨n, o, sk, ct, se, kp, sw, up, lo, sy⟩ pre) (whole n pre + 1) (parted n pre) (stg ⟨n, o, sk, ct, se, kp, sw, up, lo, sy⟩ x k) wr) ∧ Hid (Rng.Stays W0.heap.size N W wr) ∧ Hid (N ≤ wr.heap.size)) (fun _ i _ => 4 - (intOf i).toNat)
      case atStart => exact ⟨0, 0, rfl, rfl, by omega, by rw [← hbs]; rfl, HM2, HS2, HSZ2⟩
      case round =>
        clear HM2 HS2 HSZ2
        obtain ⟨k, y, rfl, hy, hk, rfl, HM3, HS3, HSZ3⟩ := hrel
        have hkl := stg_len ⟨n, o, sk, ct, se, kp, sw, up, lo, sy⟩ x hx2 k
        obtain ⟨d0, d1, d2, d3, d4, d5, d6, d7, d8, d9⟩ := pl_cells (unhide HM3).pl
        match k, hy, hk, HM3, hkl with
        | 0, hy, _, HM3, hkl =>
          obtain rfl : y = 0 := unhide hy
          have hM3 := unhide HM3
          have C := hide (fill_any.at (o := o) (sk := sk) (ct := ct) (se := se) (kp := kp) (sw := sw) (up := up) (lo := lo) (sy := sy) hM3.rm h1 h2 hkl)
          have HW := hide (fun w' (h : wr.grownBy w' (some (w.heap.size + 6))) (h' : Row 0 (sl (w.heap.size + 6) (stg ⟨n, o, sk, ct, se, kp, sw, up, lo, sy⟩ x 1).length n) (stg ⟨n, o, sk, ct, se, kp, sw, up, lo, sy⟩ x 1) w') => hM3.room (by omega) h h')
          have HX := hide (fun w' (h : wr.grownBy w' (some (w.heap.size + 6))) => (unhide HS3).trans (stays_grown h (unhide HSZ3) (by omega)))
          clear hM3
          gi_wp2_with fail
          refine ⟨trivial, round_ok m, (callsIn_round (unhide C)).mono ?_⟩
          rintro e w4 ⟨rfl, hR4, hg4⟩
          have HM4 := hide (unhide HW w4 hg4 hR4)
          have HS4 := hide (unhide HX w4 hg4)
          have HSZ4 : Hid (N ≤ w4.heap.size) := Nat.le_trans (unhide HSZ3) hg4.size
          clear HW HX C hR4 hg4 x0 x1 x2 x3 d0 d1 d2 d3 d4 d5 d6 d7 d8 d9
          gi_wp2_with fail
          go_roundw
          case rel => exact ⟨1, 1, rfl, rfl, by omega, rfl, HM4, HS4, HSZ4⟩
          case measure => simp [intOf]
        | 1, hy, _, HM3, hkl =>
          obtain rfl : y = 1 := unhide hy
          have hM3 := unhide HM3
          have C := hide (swab_any.at (o := o) (sk := sk) (ct := ct) (se := se) (kp := kp) (sw := sw) (up := up) (lo := lo) (sy := sy) hM3.rm h1 h2 hkl)
          have HW := hide (fun w' (h : wr.grownBy w' (some (w.heap.size + 6))) (h' : Row 0 (sl (w.heap.size + 6) (stg ⟨n, o, sk, ct, se, kp, sw, up, lo, sy⟩ x 2).length n) (stg ⟨n, o, sk, ct, se, kp, sw, up, lo, sy⟩ x 2) w') => hM3.room (by omega) h h')
          have HX := hide (fun w' (h : wr.grownBy w' (some (w.heap.size + 6))) => (unhide HS3).trans (stays_grown h (unhide HSZ3) (by omega)))
          clear hM3
          gi_wp2_with fail
          refine ⟨trivial, round_ok m, (callsIn_round (unhide C)).mono ?_⟩
          rintro e w4 ⟨rfl, hR4, hg4⟩
          have HM4 := hide (unhide HW w4 hg4 hR4)
          have HS4 := hide (unhide HX w4 hg4)
          have HSZ4 : Hid (N ≤ w4.heap.size) := Nat.le_trans (unhide HSZ3) hg4.size
          clear HW HX C hR4 hg4 x0 x1 x2 x3 d0 d1 d2 d3 d4 d5 d6 d7 d8 d9
          gi_wp2_with fail
          go_roundw
          case rel => exact ⟨2, 2, rfl, rfl, by omega, rfl, HM4, HS4, HSZ4⟩
          case measure => simp [intOf]
        | 2, hy, _, HM3, hkl =>
          obtain rfl : y = 2 := unhide hy
          have hM3 := unhide HM3
          have C := hide (raise_any.at (o := o) (sk := sk) (ct := ct) (se := se) (kp := kp) (sw := sw) (up := up) (lo := lo) (sy := sy) hM3.rm h1 h2 hkl)
          have HW := hide (fun w' (h : wr.grownBy w' (some (w.heap.size + 6))) (h' : Row 0 (sl (w.heap.size + 6) (stg ⟨n, o, sk, ct, se, kp, sw, up, lo, sy⟩ x 3).length n) (stg ⟨n, o, sk, ct, se, kp, sw, up, lo, sy⟩ x 3) w') => hM3.room (by omega) h h')
          have HX := hide (fun w' (h : wr.grownBy w' (some (w.heap.size + 6))) => (unhide HS3).trans (stays_grown h (unhide HSZ3) (by omega)))
          clear hM3
          gi_wp2_with fail
          refine ⟨trivial, round_ok m, (callsIn_round (unhide C)).mono ?_⟩
          rintro e w4 ⟨rfl, hR4, hg4⟩
          have HM4 := hide (unhide HW w4 hg4 hR4)
          have HS4 := hide (unhide HX w4 hg4)
          have HSZ4 : Hid (N ≤ w4.heap.size) := Nat.le_trans (unhide HSZ3) hg4.size
          clear HW HX C hR4 hg4 x0 x1 x2 x3 d0 d1 d2 d3 d4 d5 d6 d7 d8 d9
          gi_wp2_with fail
          go_roundw
          case rel => exact ⟨3, 3, rfl, rfl, by omega, rfl, HM4, HS4, HSZ4⟩
          case measure => simp [intOf]
        | 3, hy, _, HM3, hkl =>
          obtain rfl : y = 3 := unhide hy
          have hM3 := unhide HM3
          have C := hide (lower_any.at (o := o) (sk := sk) (ct := ct) (se := se) (kp := kp) (sw := sw) (up := up) (lo := lo) (sy := sy) hM3.rm h1 h2 hkl)
          have HW := hide (fun w' (h : wr.grownBy w' (some (w.heap.size + 6))) (h' : Row 0 (sl (w.heap.size + 6) (stg ⟨n, o, sk, ct, se, kp, sw, up, lo, sy⟩ x 4).length n) (stg ⟨n, o, sk, ct, se, kp, sw, up, lo, sy⟩ x 4) w') => hM3.room (by omega) h h')
          have HX := hide (fun w' (h : wr.grownBy w' (some (w.heap.size + 6))) => (unhide HS3).trans (stays_grown h (unhide HSZ3) (by omega)))
          clear hM3
          gi_wp2_with fail
          refine ⟨trivial, round_ok m, (callsIn_round (unhide C)).mono ?_⟩
          rintro e w4 ⟨rfl, hR4, hg4⟩
          have HM4 := hide (unhide HW w4 hg4 hR4)
          have HS4 := hide (unhide HX w4 hg4)
          have HSZ4 : Hid (N ≤ w4.heap.size) := Nat.le_trans (unhide HSZ3) hg4.size
          clear HW HX C hR4 hg4 x0 x1 x2 x3 d0 d1 d2 d3 d4 d5 d6 d7 d8 d9
          gi_wp2_with fail
          go_roundw
          case rel => exact ⟨4, 4, rfl, rfl, by omega, rfl, HM4, HS4, HSZ4⟩
          case measure => simp [intOf]
        | 4, hy, _, HM3, hkl =>
          obtain rfl : y = 4 := unhide hy
          have hM3 := unhide HM3
          have CW := hide (write_bd N (w.heap.size + 2) 0 (w.heap.size + 6) n _ _ wr hM3.bd hM3.rm (by have h7 : (stg ⟨n, o, sk, ct, se, kp, sw, up, lo, sy⟩ x 4).length ≤ n := hkl; omega) (unhide HSZ3))
          have HW := hide (fun w' (h : But N (w.heap.size + 2) wr w') (h' : Bd w' N (w.heap.size + 2) (went ⟨n, o, sk, ct, se, kp, sw, up, lo, sy⟩ pre ++ stg ⟨n, o, sk, ct, se, kp, sw, up, lo, sy⟩ x 4)) => (hM3.wrote (by omega) h h').empty)
          have HX := hide (fun w' (h : But N (w.heap.size + 2) wr w') => (unhide HS3).trans (stays_but h (unhide HSZ3) (by omega)))
          clear hM3 d0 d1 d2 d3 d4 d5 d6 d7 d8 d9
          generalize (stg ⟨n, o, sk, ct, se, kp, sw, up, lo, sy⟩ x 4).length = L at *
          gi_wp2_with fail
          refine ⟨trivial, round_ok m, (callsIn_round (unhide CW)).mono ?_⟩
          rintro e w5 ⟨rfl, hB5, hbut5⟩
          gi_wp2_with fail
          refine ⟨unhide HX w5 hbut5, ?_⟩
          have h5 := unhide HW w5 hbut5 hB5
          show Mid w w.heap.size ⟨n, o, sk, ct, se, kp, sw, up, lo, sy⟩ s n N (went ⟨n, o, sk, ct, se, kp, sw, up, lo, sy⟩ (pre ++ [x])) (whole n (pre ++ [x])) (parted n (pre ++ [x])) [] w5
          rw [went_snoc, whole_snoc, parted_snoc]
          rw [if_pos (unhide hx), if_pos (unhide hx), Nat.add_zero]
          exact h5
    · have hxb : ((x.length : Int) == (n : Int)) = false := by simp; omega
      replace hx := hide hx
      have HM1 := hide (hM.num1 (by omega))
      have HS1 : Hid (Rng.Stays W0.heap.size N W (W.setCell ⟨w.heap.size + 3, 1, none⟩ (.int .i64 (((parted n pre : Nat) : Int) + 1)))) := stays_grown (grown_set _ _ _ _) hN2 (by omega)
      have HSZ : Hid (N ≤ (W.setCell ⟨w.heap.size + 3, 1, none⟩ (.int .i64 (((parted n pre : Nat) : Int) + 1))).heap.size) := by show N ≤ _; simp; exact hN2
      gi_wp2_with (gi_at_builtin; refine wpListIn_fits_string _ rfl _ _ rfl (w.heap.size + 6) n [] rfl (unhide HM1).rm (bt x) rfl (by omega) (by rw [hbs]; simp; exact hx2) ?_; intro w2 hR2 hg2; have HM2 := hide ((unhide HM1).room (by omega) (l' := x) hg2 (by simpa [bt] using hR2)); have HS2 : Hid (Rng.Stays W0.heap.size N W w2) := (unhide HS1).trans (stays_grown hg2 (unhide HSZ) (by omega)); have HSZ2 : Hid (N ≤ w2.heap.size) := Nat.le_trans (unhide HSZ) hg2.size; clear d0 d1 d2 d3 d4 d5 d6 d7 d8 d9 n0 n1 nf r7 hR2 hg2; obtain ⟨s0, s1, s2, s3, _⟩ := four_cells (unhide HM2).st)
      clear HM1 HS1 HSZ s0 s1 s2 s3
      gi_loopw [11, 39] (fun v i wr => ∃ (k : Nat) (y : Int), i = .int .i64 y ∧ Hid (y = (k : Int)) ∧ k ≤ 4 ∧ v = sl (w.heap.size + 6) (stg ⟨n, o, sk, ct, se, kp, sw, up, lo, sy⟩ x k).length n ∧ Hid (Mid w w.heap.size ⟨n, o, sk, ct, se, kp, sw, up, lo, sy⟩ s n N (went ⟨n, o, sk, ct, se, kp, sw, up, lo, sy⟩ pre) (whole n pre) (parted n pre + 1) (stg ⟨n, o, sk, ct, se, kp, sw, up, lo, sy⟩ x k) wr) ∧ Hid (Rng.Stays W0.heap.size N W wr) ∧ Hid (N ≤ wr.heap.size)) (fun _ i _ => 4 - (intOf i).toNat)
      case atStart => exact ⟨0, 0, rfl, rfl, by omega, by rw [← hbs]; rfl, HM2, HS2, HSZ2⟩
      case round =>
        clear HM2 HS2 HSZ2
        obtain ⟨k, y, rfl, hy, hk, rfl, HM3, HS3, HSZ3⟩ := hrel
        have hkl := stg_len ⟨n, o, sk, ct, se, kp, sw, up, lo, sy⟩ x hx2 k
        obtain ⟨d0, d1, d2, d3, d4, d5, d6, d7, d8, d9⟩ := pl_cells (unhide HM3).pl
        match k, hy, hk, HM3, hkl with
        | 0, hy, _, HM3, hkl =>
          obtain rfl : y = 0 := unhide hy
          have hM3 := unhide HM3
          have C := hide (fill_any.at (o := o) (sk := sk) (ct := ct) (se := se) (kp := kp) (sw := sw) (up := up) (lo := lo) (sy := sy) hM3.rm h1 h2 hkl)
          have HW := hide (fun w' (h : wr.grownBy w' (some (w.heap.size + 6))) (h' : Row 0 (sl (w.heap.size + 6) (stg ⟨n, o, sk, ct, se, kp, sw, up, lo, sy⟩ x 1).length n) (stg ⟨n, o, sk, ct, se, kp, sw, up, lo, sy⟩ x 1) w') => hM3.room (by omega) h h')
          have HX := hide (fun w' (h : wr.grownBy w' (some (w.heap.size + 6))) => (unhide HS3).trans (stays_grown h (unhide HSZ3) (by omega)))
          clear hM3
          gi_wp2_with fail
          refine ⟨trivial, round_ok m, (callsIn_round (unhide C)).mono ?_⟩
          rintro e w4 ⟨rfl, hR4, hg4⟩
          have HM4 := hide (unhide HW w4 hg4 hR4)
          have HS4 := hide (unhide HX w4 hg4)
          have HSZ4 : Hid (N ≤ w4.heap.size) := Nat.le_trans (unhide HSZ3) hg4.size
          clear HW HX C hR4 hg4 x0 x1 x2 x3 d0 d1 d2 d3 d4 d5 d6 d7 d8 d9
          gi_wp2_with fail
          go_roundw
          case rel => exact ⟨1, 1, rfl, rfl, by omega, rfl, HM4, HS4, HSZ4⟩
          case measure => simp [intOf]
        | 1, hy, _, HM3, hkl =>
          obtain rfl : y = 1 := unhide hy
          have hM3 := unhide HM3
          have C := hide (swab_any.at (o := o) (sk := sk) (ct := ct) (se := se) (kp := kp) (sw := sw) (up := up) (lo := lo) (sy := sy) hM3.rm h1 h2 hkl)
          have HW := hide (fun w' (h : wr.grownBy w' (some (w.heap.size + 6))) (h' : Row 0 (sl (w.heap.size + 6) (stg ⟨n, o, sk, ct, se, kp, sw, up, lo, sy⟩ x 2).length n) (stg ⟨n, o, sk, ct, se, kp, sw, up, lo, sy⟩ x 2) w') => hM3.room (by omega) h h')
          have HX := hide (fun w' (h : wr.grownBy w' (some (w.heap.size + 6))) => (unhide HS3).trans (stays_grown h (unhide HSZ3) (by omega)))
          clear hM3
          gi_wp2_with fail
          refine ⟨trivial, round_ok m, (callsIn_round (unhide C)).mono ?_⟩
          rintro e w4 ⟨rfl, hR4, hg4⟩
          have HM4 := hide (unhide HW w4 hg4 hR4)
          have HS4 := hide (unhide HX w4 hg4)
          have HSZ4 : Hid (N ≤ w4.heap.size) := Nat.le_trans (unhide HSZ3) hg4.size
          clear HW HX C hR4 hg4 x0 x1 x2 x3 d0 d1 d2 d3 d4 d5 d6 d7 d8 d9
          gi_wp2_with fail
          go_roundw
          case rel => exact ⟨2, 2, rfl, rfl, by omega, rfl, HM4, HS4, HSZ4⟩
          case measure => simp [intOf]
        | 2, hy, _, HM3, hkl =>
          obtain rfl : y = 2 := unhide hy
          have hM3 := unhide HM3
          have C := hide (raise_any.at (o := o) (sk := sk) (ct := ct) (se := se) (kp := kp) (sw := sw) (up := up) (lo := lo) (sy := sy) hM3.rm h1 h2 hkl)
          have HW := hide (fun w' (h : wr.grownBy w' (some (w.heap.size + 6))) (h' : Row 0 (sl (w.heap.size + 6) (stg ⟨n, o, sk, ct, se, kp, sw, up, lo, sy⟩ x 3).length n) (stg ⟨n, o, sk, ct, se, kp, sw, up, lo, sy⟩ x 3) w') => hM3.room (by omega) h h')
          have HX := hide (fun w' (h : wr.grownBy w' (some (w.heap.size + 6))) => (unhide HS3).trans (stays_grown h (unhide HSZ3) (by omega)))
          clear hM3
          gi_wp2_with fail
          refine ⟨trivial, round_ok m, (callsIn_round (unhide C)).mono ?_⟩
          rintro e w4 ⟨rfl, hR4, hg4⟩
          have HM4 := hide (unhide HW w4 hg4 hR4)
          have HS4 := hide (unhide HX w4 hg4)
          have HSZ4 : Hid (N ≤ w4.heap.size) := Nat.le_trans (unhide HSZ3) hg4.size
          clear HW HX C hR4 hg4 x0 x1 x2 x3 d0 d1 d2 d3 d4 d5 d6 d7 d8 d9
          gi_wp2_with fail
          go_roundw
          case rel => exact ⟨3, 3, rfl, rfl, by omega, rfl, HM4, HS4, HSZ4⟩
          case measure => simp [intOf]
        | 3, hy, _, HM3, hkl =>
          obtain rfl : y = 3 := unhide hy
          have hM3 := unhide HM3
          have C := hide (lower_any.at (o := o) (sk := sk) (ct := ct) (se := se) (kp := kp) (sw := sw) (up := up) (lo := lo) (sy := sy) hM3.rm h1 h2 hkl)
          have HW := hide (fun w' (h : wr.grownBy w' (some (w.heap.size + 6))) (h' : Row 0 (sl (w.heap.size + 6) (stg ⟨n, o, sk, ct, se, kp, sw, up, lo, sy⟩ x 4).length n) (stg ⟨n, o, sk, ct, se, kp, sw, up, lo, sy⟩ x 4) w') => hM3.room (by omega) h h')
          have HX := hide (fun w' (h : wr.grownBy w' (some (w.heap.size + 6))) => (unhide HS3).trans (stays_grown h (unhide HSZ3) (by omega)))
          clear hM3
          gi_wp2_with fail
          refine ⟨trivial, round_ok m, (callsIn_round (unhide C)).mono ?_⟩
          rintro e w4 ⟨rfl, hR4, hg4⟩
          have HM4 := hide (unhide HW w4 hg4 hR4)
          have HS4 := hide (unhide HX w4 hg4)
          have HSZ4 : Hid (N ≤ w4.heap.size) := Nat.le_trans (unhide HSZ3) hg4.size
          clear HW HX C hR4 hg4 x0 x1 x2 x3 d0 d1 d2 d3 d4 d5 d6 d7 d8 d9
          gi_wp2_with fail
          go_roundw
          case rel => exact ⟨4, 4, rfl, rfl, by omega, rfl, HM4, HS4, HSZ4⟩
          case measure => simp [intOf]
        | 4, hy, _, HM3, hkl =>
          obtain rfl : y = 4 := unhide hy
          have hM3 := unhide HM3
          have CW := hide (write_bd N (w.heap.size + 2) 0 (w.heap.size + 6) n _ _ wr hM3.bd hM3.rm (by have h7 : (stg ⟨n, o, sk, ct, se, kp, sw, up, lo, sy⟩ x 4).length ≤ n := hkl; omega) (unhide HSZ3))
          have HW := hide (fun w' (h : But N (w.heap.size + 2) wr w') (h' : Bd w' N (w.heap.size + 2) (went ⟨n, o, sk, ct, se, kp, sw, up, lo, sy⟩ pre ++ stg ⟨n, o, sk, ct, se, kp, sw, up, lo, sy⟩ x 4)) => (hM3.wrote (by omega) h h').empty)
          have HX := hide (fun w' (h : But N (w.heap.size + 2) wr w') => (unhide HS3).trans (stays_but h (unhide HSZ3) (by omega)))
          clear hM3 d0 d1 d2 d3 d4 d5 d6 d7 d8 d9
          generalize (stg ⟨n, o, sk, ct, se, kp, sw, up, lo, sy⟩ x 4).length = L at *
          gi_wp2_with fail
          refine ⟨trivial, round_ok m, (callsIn_round (unhide CW)).mono ?_⟩
          rintro e w5 ⟨rfl, hB5, hbut5⟩
          gi_wp2_with fail
          refine ⟨unhide HX w5 hbut5, ?_⟩
          have h5 := unhide HW w5 hbut5 hB5
          show Mid w w.heap.size ⟨n, o, sk, ct, se, kp, sw, up, lo, sy⟩ s n N (went ⟨n, o, sk, ct, se, kp, sw, up, lo, sy⟩ (pre ++ [x])) (whole n (pre ++ [x])) (parted n (pre ++ [x])) [] w5
          rw [went_snoc, whole_snoc, parted_snoc]
          rw [if_neg (unhide hx), if_neg (unhide hx), Nat.add_zero]
          exact h5
  case done =>
    rintro N W hN hM hD
    obtain ⟨T, hT⟩ : ∃ T, T = tkn ⟨n, o, sk, ct, se, kp, sw, up, lo, sy⟩ (bs s) := ⟨_, rfl⟩
    rw [← hT] at hM
    replace hM : Mid w w.heap.size ⟨n, o, sk, ct, se, kp, sw, up, lo, sy⟩ s n N (went ⟨n, o, sk, ct, se, kp, sw, up, lo, sy⟩ T) (whole n T) (parted n T) [] W := hM
    have hGl : (went ⟨n, o, sk, ct, se, kp, sw, up, lo, sy⟩ T).length ≤ 70000000000 := by
      have h := went_len ⟨n, o, sk, ct, se, kp, sw, up, lo, sy⟩ T (fun b hb => (hmem b (hT ▸ hb)).2)
      have : (n : Nat) * T.length ≤ 65536 * 1048576 := Nat.mul_le_mul (by omega) (by rw [hT]; omega)
      exact Nat.le_trans h (by show n * T.length ≤ _; omega)
    obtain ⟨q, rfl⟩ : ∃ q : Nat, o = q := ⟨o.toNat, by omega⟩
    have HR : Hid (numV ⟨n, q, sk, ct, se, kp, sw, up, lo, sy⟩ T = #[.int .i64 (whole n T : Int), .int .i64 (parted n T : Int), .int .i64 (((went ⟨n, q, sk, ct, se, kp, sw, up, lo, sy⟩ T).length / q : Nat) : Int), .int .i64 ((if (went ⟨n, q, sk, ct, se, kp, sw, up, lo, sy⟩ T).length % q = 0 then 0 else 1 : Nat) : Int)]) := rfl
    obtain ⟨G, hG⟩ : ∃ G, G = went ⟨n, q, sk, ct, se, kp, sw, up, lo, sy⟩ T := ⟨_, rfl⟩
    rw [← hG] at hM hGl HR
    replace hG := hide hG
    obtain ⟨d0, d1, d2, d3, d4, d5, d6, d7, d8, d9⟩ := pl_cells hM.pl
    obtain ⟨n0, n1, n2, n3, nf⟩ := four_cells hM.nm
    obtain ⟨r0, r1, r2, r3, rf⟩ := four_cells hM.rs
    have HM := hide hM
    have HB := hide hM.bd
    clear hM hM0 hmk hmem hlen d0 d2 d3 d4 d5 d6 d7 d8 d9
    have hq0 : ((q : Int) == 0) = false := by simp; omega
    have hq1 : ¬ q = 0 := by omega
    have hdv : (G.length : Int) / (q : Int) = ((G.length / q : Nat) : Int) := by simp
    have hd2 : G.length / q ≤ G.length := Nat.div_le_self _ _
    obtain ⟨dv, hd3⟩ : ∃ dv, dv = G.length / q := ⟨_, rfl⟩
    rw [← hd3] at hdv hd2 HR
    clear hd3
    replace hT := hide hT
    have hrm : (G.length : Int) % (q : Int) = ((G.length % q : Nat) : Int) := by simp
    obtain ⟨rv, hr3⟩ : ∃ rv, rv = G.length % q := ⟨_, rfl⟩
    rw [← hr3] at hrm HR
    clear hr3
    have hwr : IntKind.i64.wrap (dv : Int) = (dv : Int) := by rw [IntWalk.i64_left]; unfold wrap64; omega
    obtain ⟨W1, HW1⟩ : ∃ W1, Hid (W1 = (W.setCell ⟨w.heap.size + 3, 2, none⟩ (.int .i64 (dv : Int))).drew) := ⟨_, rfl⟩
    have HT1 : Hid (Tl w w.heap.size N G (whole n T) (parted n T) dv 0 q W1) := by rw [unhide HW1]; exact (tl_of (unhide HM) (by rw [← hsz]; exact hD) (by omega)).two dv
    have CL : Hid (Calls Try.prog 28 #[.pointer (some ⟨w.heap.size + 2, 0, none⟩)] W.drew fun e w' => e = .returned (.int .i64 G.length) ∧ w' = W.drew) := len_bd N _ _ _ (unhide HB)
    have hd1 : W.drew.cell? ⟨w.heap.size, 1, none⟩ = some (.int .i64 (q : Int)) := d1
    gi_wp2
    refine wpIn_wide.2 ?_
    go_region_held3 (fun w' => w'.cell? ⟨w.heap.size, 1, none⟩ = some (.int .i64 (q : Int))) (first | assumption | go_keep)
      (first | (with_reducible refine (unhide CL).mono ?_; rintro e w' ⟨rfl, rfl⟩) | fail)
    rw [← unhide HW1]
    clear CL hd1 d1 n0 n1 n2 n3 nf r0 r1 r2 r3 rf HM HB hdv hd2 hwr HW1
    have d1 := (unhide HT1).d1
    have hd1 : W1.drew.cell? ⟨w.heap.size, 1, none⟩ = some (.int .i64 (q : Int)) := d1
    have CL : Hid (Calls Try.prog 28 #[.pointer (some ⟨w.heap.size + 2, 0, none⟩)] W1.drew fun e w' => e = .returned (.int .i64 G.length) ∧ w' = W1.drew) := len_bd N _ _ _ (unhide HT1).bd
    obtain ⟨n0, n1, n2, n3, nf⟩ := four_cells (unhide HT1).nm
    by_cases hrz : rv = 0
    · rw [if_pos hrz] at HR
      have htm : ((G.length : Int).tmod (q : Int) != 0) = false := by rw [Int.tmod_eq_emod_of_nonneg (by omega), hrm, hrz]; rfl
      clear hrz hrm
      gi_wp2
      refine wpIn_wide.2 ?_
      go_region_held3 (fun w' => w'.cell? ⟨w.heap.size, 1, none⟩ = some (.int .i64 (q : Int))) (first | assumption | go_keep)
        (first | (with_reducible refine (unhide CL).mono ?_; rintro e w' ⟨rfl, rfl⟩) | fail)
      have HT2 : Hid (Tl w w.heap.size N G (whole n T) (parted n T) dv 0 q W1.drew) := (unhide HT1).drew
      clear CL hd1 d1 n0 n1 n2 n3 nf HT1
      generalize W1.drew = W2 at *
      gi_wp2
      have CS := hide (string_bd N (w.heap.size + 2) (w.heap.size + 10) G W2.drew (unhide HT2).bd (unhide HT2).hN (Nat.le_of_lt (heap_lt (unhide HT2).df)))
      have HA : Hid (∀ w3, Below (w.heap.size + 10) W2.drew w3 → Keep8 W2.drew w3 → Te w w.heap.size (whole n T) (parted n T) dv 0 w3) := fun w3 h h' => (unhide HT2).drew.after h h'
      obtain ⟨n0, n1, n2, n3, nf⟩ := four_cells (unhide HT2).drew.nm
      have hS2 := And.intro n0 (And.intro n1 (And.intro n2 n3))
      clear n0 n1 n2 n3 nf HT2
      refine wpIn_wide.2 ?_
      go_region_held3 (fun w' => w'.cell? ⟨w.heap.size + 3, 0, none⟩ = some (.int .i64 ((whole n T : Nat) : Int)) ∧ w'.cell? ⟨w.heap.size + 3, 1, none⟩ = some (.int .i64 ((parted n T : Nat) : Int)) ∧ w'.cell? ⟨w.heap.size + 3, 2, none⟩ = some (.int .i64 (dv : Int)) ∧ w'.cell? ⟨w.heap.size + 3, 3, none⟩ = some (.int .i64 ((0 : Nat) : Int))) (first | assumption | go_keep)
        (first | (with_reducible refine (unhide CS).mono ?_; rintro e w3 ⟨rfl, hb3, hk3⟩; have HT3 := hide (unhide HA w3 hb3 hk3); have r4 := four_cells (unhide HT3).rs; have q0 := r4.1; have q1 := r4.2.1; have q2 := r4.2.2.1; have q3 := r4.2.2.2.1; have qf := r4.2.2.2.2; have n4 := four_cells (unhide HT3).nm; have hS3 := And.intro n4.1 (And.intro n4.2.1 (And.intro n4.2.2.1 n4.2.2.2.1)); clear r4 n4 hb3 hk3) | fail)
      obtain ⟨W9, HW9⟩ : ∃ W9, Hid (W9 = (((w3.setCell ⟨w.heap.size + 1, 0, none⟩ (.int .i64 ((whole n T : Nat) : Int))).setCell ⟨w.heap.size + 1, 1, none⟩ (.int .i64 ((parted n T : Nat) : Int))).setCell ⟨w.heap.size + 1, 2, none⟩ (.int .i64 (dv : Int))).setCell ⟨w.heap.size + 1, 3, none⟩ (.int .i64 0)) := ⟨_, rfl⟩
      obtain ⟨h91, h92, h93⟩ := (unhide HT3).fin (unhide HW9)
      rw [← unhide HW9]
      clear HW9 HT3 q0 q1 q2 q3 qf hS3 hS2 CS HA
      gi_wp2
      rw [← unhide hT, ← unhide hG, unhide HR]
      refine ⟨by simp, .inl ⟨_, _, rfl, run_takeDeferred h92, ?_⟩⟩
      refine ⟨_, res_changed ((World.putObj_heap_other (by omega)).trans h91) rfl rfl, rfl, ?_⟩
      exact h93.trans (belowK_b (w := w) (Nat.le_refl _) _ _ _ _ (by omega) h92 rfl rfl)
    · rw [if_neg hrz] at HR
      have htm : ((G.length : Int).tmod (q : Int) != 0) = true := by rw [Int.tmod_eq_emod_of_nonneg (by omega), hrm]; simp [hrz]
      clear hrz hrm
      gi_wp2
      refine wpIn_wide.2 ?_
      go_region_held3 (fun w' => w'.cell? ⟨w.heap.size, 1, none⟩ = some (.int .i64 (q : Int))) (first | assumption | go_keep)
        (first | (with_reducible refine (unhide CL).mono ?_; rintro e w' ⟨rfl, rfl⟩) | fail)
      have HT2 : Hid (Tl w w.heap.size N G (whole n T) (parted n T) dv 1 q (W1.setCell ⟨w.heap.size + 3, 3, none⟩ (.int .i64 1)).drew) := ((unhide HT1).three 1).drew
      gi_wp2
      clear CL hd1 d1 n0 n1 n2 n3 nf HT1
      generalize (W1.setCell ⟨w.heap.size + 3, 3, none⟩ (.int .i64 1)).drew = W2 at *
      have CS := hide (string_bd N (w.heap.size + 2) (w.heap.size + 10) G W2.drew (unhide HT2).bd (unhide HT2).hN (Nat.le_of_lt (heap_lt (unhide HT2).df)))
      have HA : Hid (∀ w3, Below (w.heap.size + 10) W2.drew w3 → Keep8 W2.drew w3 → Te w w.heap.size (whole n T) (parted n T) dv 1 w3) := fun w3 h h' => (unhide HT2).drew.after h h'
      obtain ⟨n0, n1, n2, n3, nf⟩ := four_cells (unhide HT2).drew.nm
      have hS2 := And.intro n0 (And.intro n1 (And.intro n2 n3))
      clear n0 n1 n2 n3 nf HT2
      refine wpIn_wide.2 ?_
      go_region_held3 (fun w' => w'.cell? ⟨w.heap.size + 3, 0, none⟩ = some (.int .i64 ((whole n T : Nat) : Int)) ∧ w'.cell? ⟨w.heap.size + 3, 1, none⟩ = some (.int .i64 ((parted n T : Nat) : Int)) ∧ w'.cell? ⟨w.heap.size + 3, 2, none⟩ = some (.int .i64 (dv : Int)) ∧ w'.cell? ⟨w.heap.size + 3, 3, none⟩ = some (.int .i64 ((1 : Nat) : Int))) (first | assumption | go_keep)
        (first | (with_reducible refine (unhide CS).mono ?_; rintro e w3 ⟨rfl, hb3, hk3⟩; have HT3 := hide (unhide HA w3 hb3 hk3); have r4 := four_cells (unhide HT3).rs; have q0 := r4.1; have q1 := r4.2.1; have q2 := r4.2.2.1; have q3 := r4.2.2.2.1; have qf := r4.2.2.2.2; have n4 := four_cells (unhide HT3).nm; have hS3 := And.intro n4.1 (And.intro n4.2.1 (And.intro n4.2.2.1 n4.2.2.2.1)); clear r4 n4 hb3 hk3) | fail)
      obtain ⟨W9, HW9⟩ : ∃ W9, Hid (W9 = (((w3.setCell ⟨w.heap.size + 1, 0, none⟩ (.int .i64 ((whole n T : Nat) : Int))).setCell ⟨w.heap.size + 1, 1, none⟩ (.int .i64 ((parted n T : Nat) : Int))).setCell ⟨w.heap.size + 1, 2, none⟩ (.int .i64 (dv : Int))).setCell ⟨w.heap.size + 1, 3, none⟩ (.int .i64 1)) := ⟨_, rfl⟩
      obtain ⟨h91, h92, h93⟩ := (unhide HT3).fin (unhide HW9)
      rw [← unhide HW9]
      clear HW9 HT3 q0 q1 q2 q3 qf hS3 hS2 CS HA
      gi_wp2
      rw [← unhide hT, ← unhide hG, unhide HR]
      refine ⟨by simp, .inl ⟨_, _, rfl, run_takeDeferred h92, ?_⟩⟩
      refine ⟨_, res_changed ((World.putObj_heap_other (by omega)).trans h91) rfl rfl, rfl, ?_⟩
      exact h93.trans (belowK_b (w := w) (Nat.le_refl _) _ _ _ _ (by omega) h92 rfl rfl)
  case stop =>
    rintro N c pre W _ _ h _
    exact h.elim
end Go.Proofs.Ytebnmjelelkcmaa.Bk
