/- What opts.Parse answers. -/
import Derived.Test.YtamgehfppeknhaaDoorParseRd
import Derived.Deep.LoopGhost
import Derived.WalkMore
import Derived.WalkSmall
import Derived.Laws.AppendOwnNone
namespace Go.Proofs.YtamgehfppeknhaaDoor.Pa
open Go.RowKit

theorem next_end (Ba Bb : Nat) (a : Option Addr) (n cap : Nat) (w : World) (h1 : w.cell? ⟨Ba, 0, none⟩ = some (.int .i64 n)) (h2 : w.cell? ⟨Bb, 0, none⟩ = some (.slice a n cap)) :
    Calls Tryd.prog 16 #[.pointer (some ⟨Ba, 0, none⟩), .pointer (some ⟨Bb, 0, none⟩)] w fun e w' => e = .returned (.tuple #[.string ByteArray.empty, .bool false]) ∧ w' = w := by
  go_enter Tryd.func16, Tryd.ntmps16
  go_wp2
  go_ret2
  exact ⟨rfl, rfl⟩

theorem next_some (Ba Bb b off n cap k : Nat) (x : ByteArray) (w : World) (h1 : w.cell? ⟨Ba, 0, none⟩ = some (.int .i64 k)) (hf : w.frozen? ⟨Ba, 0, none⟩ = false)
    (h2 : w.cell? ⟨Bb, 0, none⟩ = some (.slice (some ⟨b, off, none⟩) n cap)) (hk : k < n) (hn : n ≤ 4611686018427387904) (hx : w.cell? ⟨b, off + k, none⟩ = some (.string x)) (hne : Ba ≠ Bb) (hne2 : Ba ≠ b) :
    Calls Tryd.prog 16 #[.pointer (some ⟨Ba, 0, none⟩), .pointer (some ⟨Bb, 0, none⟩)] w fun e w' => e = .returned (.tuple #[.string x, .bool true]) ∧ w' = w.setCell ⟨Ba, 0, none⟩ (.int .i64 ((k + 1 : Nat) : Int)) := by
  have hk1 : (((k : Int)) == (n : Int)) = false := by simp; omega
  have ek : ((k + 1 : Nat) : Int) = (k : Int) + 1 := by omega
  rw [ek]
  clear ek
  go_enter Tryd.func16, Tryd.ntmps16
  go_wp2
  go_ret2
  exact ⟨rfl, rfl⟩

/-- a list of texts that came in: empty, or its texts lie at b, off -/
structure Tx (w : World) (a : Option Addr) (n cap : Nat) (ss : List ByteArray) : Prop where
  len : ss.length = n
  le : n ≤ cap
  nil : a = none → n = 0 ∧ cap = 0
  cells : n = 0 ∨ ∃ b off, a = some ⟨b, off, none⟩ ∧ b < w.heap.size ∧ ∀ i, i < n → w.cell? ⟨b, off + i, none⟩ = some (.string (ss.getD i ByteArray.empty))
theorem Tx.below {w w' : World} {a : Option Addr} {n cap : Nat} {ss : List ByteArray} (h : Tx w a n cap ss) (hb : Below w.heap.size w w') : Tx w' a n cap ss := by
  refine ⟨h.len, h.le, h.nil, ?_⟩
  rcases h.cells with h | ⟨b, off, e, hlt, hc⟩
  · exact .inl h
  · exact .inr ⟨b, off, e, Nat.lt_of_lt_of_le hlt hb.size, fun i hi => (hb.cell hlt).trans (hc i hi)⟩

/-- 'append([]T(nil), xs[j:]...)': the texts from j on, in a row of its own -/
theorem wpList_append_src {P : Program} {w : World} {ops : Array Oper} {rest : List Oper} {o : Oper} {a : Act} {Q : Exit → Act → World → Prop} (hgd : o.guard = none) (x : Operand) (t : TypeId)
    (ho : o.op = .call { callee := .builtin .append, args := #[.const (.slice none 0 0), x], argTypes := #[t, t] })
    (base : Nat) (e : TypeId) (i : TypeInfo) (z : Value) (size bytes : Nat) (ht : P.underlying t = some (.slice e)) (hi : P.info? e = some i) (hz : i.zero = some z)
    (hsize : i.size = size) (hby : i.bytes = bytes) (hzs : z.cells.size = size) (hsz : 0 < size)
    (ao : Option Addr) (m c : Nat) (news : List Value) (hx : a.eval x = .slice ao m c) (hnone : ao = none → m = 0 ∧ c = 0) (hl : news.length = m * size)
    (hnews : ∀ ad, ao = some ad → ∀ j u, news[j]? = some u → w.cell? (ad.add j) = some u) (h1 : ∀ u ∈ news, u.oneCell' = true)
    (h63 : m ≤ maxLen) (hbytes : m * bytes ≤ 140737488355328) (hbase : base ≤ w.heap.size)
    (h : ∀ v' w', w'.ownsRow base e size v' m news → w.grownBy w' none → wpList P ops Q rest (a.put o.dst v') w') : wpList P ops Q (o :: rest) a w := by
  cases ao with
  | none =>
    obtain ⟨rfl, rfl⟩ := hnone rfl
    have : news = [] := List.eq_nil_of_length_eq_zero (by omega)
    subst this
    exact wpList_append_own_none hgd (.const (.slice none 0 0)) x t ho base e i size ht hi (.slice none 0 0) 0 [] rfl (World.ownsRow_nil _ _ _ _) hx (h _ _ (World.ownsRow_nil _ _ _ _) (World.grownBy.refl _ _))
  | some ad =>
    refine wpList_append_own w hgd (.const (.slice none 0 0)) x t ho base e i z size bytes ht hi hz hsize hby hzs hsz (.slice none 0 0) 0 [] rfl (World.ownsRow_nil _ _ _ _) ad m c news hx hl (hnews ad rfl) h1 (by omega) (by simpa using hbytes) hbase ?_
    intro v' w' hown hgrow _
    exact h v' w' (by simpa using hown) hgrow

theorem add_none (b off j : Nat) : (⟨b, off, none⟩ : Addr).add j = ⟨b, off + j, none⟩ := by unfold Addr.add; split <;> simp_all

theorem src_cells {w : World} {a : Option Addr} {n cap : Nat} {ss : List ByteArray} (h : Tx w a n cap ss) (j : Nat) (ad : Addr) (he : (if cap = j then a else a.map (·.add j)) = some ad) :
    ∀ i u, ((ss.drop j).map Value.string)[i]? = some u → w.cell? (ad.add i) = some u := by
  intro i u hu
  rw [List.getElem?_map, List.getElem?_drop] at hu
  have hl := h.len
  have hle := h.le
  by_cases hji : j + i < n
  · rcases h.cells with h0 | ⟨b, off, rfl, hlt, hc⟩
    · omega
    · rw [if_neg (by omega)] at he
      simp only [Option.map_some, Option.some.injEq] at he
      subst he
      rw [add_none, add_none, Nat.add_assoc, hc (j + i) hji]
      rw [List.getElem?_eq_getElem (by omega)] at hu
      simp only [Option.map_some, Option.some.injEq] at hu
      rw [← hu]
      simp [List.getD, List.getElem?_eq_getElem (show j + i < ss.length by omega)]
  · rw [List.getElem?_eq_none (by omega)] at hu
    simp at hu

theorem src_cells2 {w : World} {b off n cap : Nat} {ss : List ByteArray} (h : Tx w (some ⟨b, off, none⟩) n cap ss) (j : Nat) (hj : j < n) (ad : Addr) (he : some (⟨b, off + j, none⟩ : Addr) = some ad) :
    ∀ i u, ((ss.drop j).map Value.string)[i]? = some u → w.cell? (ad.add i) = some u := by
  have hle := h.le
  refine src_cells h j ad ?_
  rw [if_neg (by omega), ← he]
  simp only [Option.map_some, add_none]

theorem texts_one (l : List ByteArray) : ∀ u ∈ l.map Value.string, u.oneCell' = true := by
  intro u hu
  obtain ⟨s, _, rfl⟩ := List.mem_map.1 hu
  rfl
theorem src_none {w : World} {a : Option Addr} {n cap : Nat} {ss : List ByteArray} (h : Tx w a n cap ss) (j m c : Nat) (hm : m = n - j) (hc : c = cap - j) (he : (if cap = j then a else a.map (·.add j)) = none) : m = 0 ∧ c = 0 := by
  have hn : a = none := by
    split at he
    · exact he
    · simpa using he
  obtain ⟨rfl, rfl⟩ := h.nil hn
  exact ⟨by omega, by omega⟩
theorem src_len {w : World} {a : Option Addr} {n cap : Nat} {ss : List ByteArray} (h : Tx w a n cap ss) (j m : Nat) (hm : m = n - j) : ((ss.drop j).map Value.string).length = m * 1 := by
  rw [List.length_map, List.length_drop, h.len]; omega
theorem Tx.same {w w' : World} {a : Option Addr} {n cap : Nat} {ss : List ByteArray} {B : Nat} (h : Tx w a n cap ss) (hb : Below B w w') (hB : w.heap.size ≤ B) : Tx w' a n cap ss := h.below (hb.mono hB)

theorem ownsRow_base {w : World} {base base' : Nat} {e : TypeId} {size : Nat} {v : Value} {n : Nat} {xs : List Value} (h : w.ownsRow base e size v n xs) (hb : base' ≤ base) : w.ownsRow base' e size v n xs := by
  refine ⟨h.1, ?_⟩
  rcases h.2 with hn | ⟨g, cap, cur, rfl, hg, rest⟩
  · exact .inl hn
  · exact .inr ⟨g, cap, cur, rfl, by omega, rest⟩

def PaPost (w : World) (which : ByteArray) (ss : List ByteArray) (e : Ending) (w' : World) : Prop :=
  ∃ vf vt, e = .returned (.tuple #[vf, vt, .int .i64 (parse which ss).2.2]) ∧ w'.ownsRow w.heap.size 59 2 vf (parse which ss).1.length (fcl (parse which ss).1) ∧
    w'.ownsRow w.heap.size 9 1 vt (parse which ss).2.1.length ((parse which ss).2.1.map Value.string) ∧ Below w.heap.size w w' ∧ (vf.ownBlock = none ∨ vf.ownBlock ≠ vt.ownBlock)
theorem PaPost.nix {w w' : World} {which : ByteArray} {ss : List ByteArray} {er : Int} (h : parse which ss = ([], [], er)) (hb : Below w.heap.size w w') :
    PaPost w which ss (.returned (.tuple #[.slice none 0 0, .slice none 0 0, .int .i64 er])) w' := by
  unfold PaPost
  rw [h]
  exact ⟨_, _, rfl, World.ownsRow_nil _ _ _ _, World.ownsRow_nil _ _ _ _, hb, .inl rfl⟩

theorem parse_arg {which : ByteArray} {ss : List ByteArray} (h : rd which.data.toList (fun _ => 0) = none) : parse which ss = ([], [], 1) := by
  unfold parse; rw [h]
theorem parse_limit {which : ByteArray} {ss : List ByteArray} {K : Int → Int} (h : rd which.data.toList (fun _ => 0) = some K) (hn : 256 < ss.length) : parse which ss = ([], [], 3) := by
  unfold parse; rw [h]; simp [hn]
theorem parse_usage {which : ByteArray} {ss : List ByteArray} {K : Int → Int} (h : rd which.data.toList (fun _ => 0) = some K) (hn : ¬ 256 < ss.length) (hw : words K ss [] = none) : parse which ss = ([], [], 4) := by
  unfold parse; rw [h]; simp [hn, hw]
theorem parse_ok {which : ByteArray} {ss : List ByteArray} {K : Int → Int} {fl : Fl} {rest : List ByteArray} (h : rd which.data.toList (fun _ => 0) = some K) (hn : ¬ 256 < ss.length) (hw : words K ss [] = some (fl, rest)) : parse which ss = (fl, rest, 0) := by
  unfold parse; rw [h]; simp [hn, hw]

/-- what holds between the rounds: the place in the words, the box of the words, the map, the flags so far -/
structure Inv (w wr : World) (Bb Ba Bm nn : Nat) (K : Int → Int) (a : Option Addr) (n cap k : Nat) (v : Value) (fl : Fl) : Prop where
  at' : wr.cell? ⟨Ba, 0, none⟩ = some (.int .i64 k)
  free : wr.frozen? ⟨Ba, 0, none⟩ = false
  box : wr.cell? ⟨Bb, 0, none⟩ = some (.slice a n cap)
  map : Mp wr Bm nn K
  row : wr.ownsRow (Ba + 1) 59 2 v fl.length (fcl fl)
  bel : Below w.heap.size w wr
  lt : Ba < wr.heap.size
  b1 : w.heap.size ≤ Bb
  b2 : Bb < Ba
  b3 : w.heap.size ≤ Bm
  b4 : Bm < Ba

theorem Inv.next {w wr : World} {Bb Ba Bm nn : Nat} {K : Int → Int} {a : Option Addr} {n cap k : Nat} {v : Value} {fl : Fl} (h : Inv w wr Bb Ba Bm nn K a n cap k v fl) (k' : Nat) :
    Inv w (wr.setCell ⟨Ba, 0, none⟩ (.int .i64 k')) Bb Ba Bm nn K a n cap k' v fl := by
  have hb1 := h.b1
  have hb2 := h.b2
  have hb3 := h.b3
  have hb4 := h.b4
  have hg : wr.grownBy (wr.setCell ⟨Ba, 0, none⟩ (.int .i64 k')) (some Ba) := ⟨rfl, rfl, rfl, by simp, fun j hj hne => Below.heap_setCell _ _ _ _ (by intro e; exact hne (by rw [e]))⟩
  exact {
    at' := World.cell?_setCell_same _ _ _ h.at'
    free := by rw [World.frozen?_setCell]; exact h.free
    box := (hg.cell h.box (by simp; omega))
    map := h.map.kept hg (by simp; omega)
    row := ownsRow_setCell_below h.row (by simp) _
    bel := h.bel.setCell (by simp; omega) _
    lt := by simpa using h.lt
    b1 := hb1
    b2 := hb2
    b3 := hb3
    b4 := hb4 }

theorem Inv.grow {w wr w1 w2 : World} {Bb Ba Bm nn : Nat} {K : Int → Int} {a : Option Addr} {n cap k : Nat} {v v' : Value} {fl : Fl} {c : Int} {x : ByteArray} (h : Inv w wr Bb Ba Bm nn K a n cap k v fl) (o : Obj)
    (hw : w1 = wr.alloc o) (hg : w1.grownBy w2 v.ownBlock) (hr : w2.ownsRow (Ba + 1) 59 2 v' (fl.length + 1) (fcl fl ++ [.int .u8 c, .string x])) : Inv w w2 Bb Ba Bm nn K a n cap k v' (fl ++ [(c, x)]) := by
  have hb1 := h.b1
  have hb2 := h.b2
  have hb3 := h.b3
  have hb4 := h.b4
  subst hw
  have hga : wr.grownBy (wr.alloc o) none := World.grownBy_alloc wr o none
  have hlt : ∀ j, v.ownBlock = some j → Ba + 1 ≤ j := fun j hj => (h.row.lt j hj).1
  have hne : ∀ j, j ≤ Ba → some j ≠ v.ownBlock := fun j hj e => by have := hlt j e.symm; omega
  have hal := h.lt
  exact {
    at' := hg.cell (hga.cell h.at' (by simp)) (hne _ (Nat.le_refl _))
    free := by
      rw [World.frozen?_of_block (w := wr.alloc o) (hg.block Ba (by simp; omega) (hne _ (Nat.le_refl _))), World.frozen?_of_block (w := wr) (hga.block Ba hal (by simp))]
      exact h.free
    box := hg.cell (hga.cell h.box (by simp)) (hne _ (by simp; omega))
    map := (h.map.kept hga (by simp)).kept hg (hne _ (by omega))
    row := by rw [fcl_snoc]; simpa using hr
    bel := (h.bel.alloc h.bel.size o).grown hg (by have := h.bel.size; simp; omega) (fun j hj => by have := hlt j hj; omega)
    lt := by have := hg.size; simp at this; omega
    b1 := hb1
    b2 := hb2
    b3 := hb3
    b4 := hb4 }

theorem PaPost.ok {w wr w3 : World} {which : ByteArray} {ss rest : List ByteArray} {Bb Ba Bm nn : Nat} {K : Int → Int} {a : Option Addr} {n cap k m : Nat} {v vt : Value} {fl : Fl} {news : List Value}
    (hI : Inv w wr Bb Ba Bm nn K a n cap k v fl) (hg : wr.grownBy w3 none) (hvt : w3.ownsRow wr.heap.size 9 1 vt m news) (hm : m = rest.length) (hnews : news = rest.map Value.string)
    (hp : parse which ss = (fl, rest, 0)) : PaPost w which ss (.returned (.tuple #[v, vt, .int .i64 0])) w3 := by
  subst hm hnews
  unfold PaPost
  rw [hp]
  have hb1 := hI.b1
  have hb2 := hI.b2
  refine ⟨v, vt, rfl, ownsRow_base (hI.row.kept hg (by cases v.ownBlock <;> simp)) (by omega), ownsRow_base hvt hI.bel.size, hI.bel.grown hg hI.bel.size (by simp), ?_⟩
  cases hv : v.ownBlock with
  | none => exact .inl rfl
  | some x =>
    refine .inr fun e => ?_
    have h1 := (hI.row.lt x hv).2
    have h2 := (hvt.lt x e.symm).1
    omega

theorem pair_new (w : World) (x y : Value) (e : TypeId) : ∀ j u, [x, y][j]? = some u → (w.alloc (.cells #[x, y] e)).cell? ((⟨w.heap.size, 0, none⟩ : Addr).add j) = some u := by
  intro j u hj
  match j, hj with
  | 0, hj => simp at hj; subst hj; simp [Addr.add]
  | 1, hj => simp at hj; subst hj; simp [Addr.add]
theorem pair_one (k : IntKind) (a : Int) (s : ByteArray) : ∀ u ∈ [Value.int k a, Value.string s], u.oneCell' = true := by
  intro u hu; simp at hu; rcases hu with rfl | rfl <;> rfl

theorem words_dash {K : Int → Int} {ss : List ByteArray} {k : Nat} {fl : Fl} (h : k < ss.length) (hw : (ss[k]).data.toList = [45, 45]) : words K (ss.drop k) fl = some (fl, ss.drop (k + 1)) := by
  rw [List.drop_eq_getElem_cons h, words_cons, if_pos hw]
theorem words_stop {K : Int → Int} {ss : List ByteArray} {k : Nat} {fl : Fl} (h : k < ss.length) (hw : ¬ (ss[k]).data.toList = [45, 45]) (ho : isOpt (ss[k]).data.toList = false) : words K (ss.drop k) fl = some (fl, ss.drop k) := by
  rw [List.drop_eq_getElem_cons h, words_cons, if_neg hw, ho]
  rfl
theorem words_opt {K : Int → Int} {ss : List ByteArray} {k : Nat} {fl : Fl} (h : k < ss.length) (hw : ¬ (ss[k]).data.toList = [45, 45]) (ho : isOpt (ss[k]).data.toList = true) :
    words K (ss.drop k) fl = after K (ss.drop (k + 1)) (lets K (ss.drop (k + 1)).head? ((ss[k]).data.toList.drop 1) fl) := by
  rw [List.drop_eq_getElem_cons h, words_cons, if_neg hw, if_pos ho]
theorem tot_at {ss : List ByteArray} {k : Nat} (h : k < ss.length) : tot (ss.drop k) = (ss[k]).size + tot (ss.drop (k + 1)) := by
  rw [List.drop_eq_getElem_cons h]; rfl
theorem isOpt_size {s : ByteArray} (h : isOpt s.data.toList = true) : 1 < s.size := by
  unfold isOpt at h; simp at h; exact h.1
theorem after_next {K : Int → Int} {ss : List ByteArray} {k : Nat} {fl : Fl} (h : k < ss.length) : after K (ss.drop k) (some (fl, true)) = words K (ss.drop (k + 1)) fl := by
  rw [List.drop_eq_getElem_cons h]; rfl
end Go.Proofs.YtamgehfppeknhaaDoor.Pa
