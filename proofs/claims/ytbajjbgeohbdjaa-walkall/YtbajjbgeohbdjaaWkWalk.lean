/- What Walk answers. -/
import Derived.Test.YtbajjbgeohbdjaaWkFrom
import Derived.Test.YtbajjbgeohbdjaaLnSplit
import Derived.Test.YtbajjbgeohbdjaaCaFindP
import Derived.Maps.OwnIn
import Derived.Sort.CutIn
namespace Go.Proofs.Ytbajjbgeohbdjaa.Wk
open Go.RowKit Go.Proofs.Ytbajjbgeohbdjaa.Cu Go.Proofs.Ytbajjbgeohbdjaa.Tr Go.Proofs.Ytbajjbgeohbdjaa.Pm Go.Proofs.Ytbajjbgeohbdjaa.Pt Go.Proofs.Ytbajjbgeohbdjaa.Rng

attribute [local go_sem] Oper.semAt_some

def walkP (now : Int) (ns : List Nd) (e : Ev) (p : ByteArray) (deep : Int) : List Sp × List ByteArray × Int :=
  if (findA now ns e p false).2 ≠ 0 then ([], [], (findA now ns e p false).2)
  else if (findA now ns e p false).1.node = 0 then ([], [], 6)
  else (wkP ns e deep 34 0 p (findA now ns e p false).1.node.toNat, shL ns e deep (wkP ns e deep 34 0 p (findA now ns e p false).1.node.toNat), 0)
def sc (s : Sp) : List Value := [.string s.path, .int .i64 s.node, .int .i64 s.depth, .bool s.after]
/-- the cells of steps -/
def stc (l : List Sp) : List Value := l.flatMap sc
theorem stc_snoc (l : List Sp) (s : Sp) : stc (l ++ [s]) = stc l ++ sc s := by simp [stc]
theorem shL_snoc (ns : List Nd) (e : Ev) (deep : Int) (l : List Sp) (s : Sp) : shL ns e deep (l ++ [s]) = shL ns e deep l ++ (if shP ns e deep s then [s.path] else []) := by
  unfold shL
  rw [List.filter_append, List.map_append, List.filter_cons, List.filter_nil]
  split
  · rfl
  · rfl
abbrev tyL : TypeId := 31
abbrev StR (B : Nat) (v : Value) (l : List Sp) (w : World) : Prop := w.ownsRow B tyS 4 v l.length (stc l)
abbrev TxR (B : Nat) (v : Value) (l : List ByteArray) (w : World) : Prop := w.ownsRow B 9 1 v l.length (l.map Value.string)
theorem results_tmp3 {fn : Func} {t u v : Tmp} (h : fn.results = #[.tmp t, .tmp u, .tmp v]) (tmps : Array Value) (P : Program) (w : World) :
    (results fn tmps).run P w = .ok (.tuple #[tmps.getD t undef, tmps.getD u undef, tmps.getD v undef]) w := by
  simp [results, h, go_sem]
theorem Try.infoStep : (Try.prog.info? 37).map (fun i => (i.zero, i.size, i.bytes)) = some (some (.agg #[.string ByteArray.empty, .int .i64 0, .int .i64 0, .bool false]), 4, 40) := by kernel_rfl
/-- six boxes, one behind the other -/
theorem six_new (w : World) (o1 o2 o3 o4 o5 o6 : Obj) : ∀ X, X = ((((((w.alloc o1).alloc o2).alloc o3).alloc o4).alloc o5).alloc o6) →
    X.heap[w.heap.size + 1]? = some o2 ∧ X.heap[w.heap.size + 1 + 1]? = some o3 ∧ X.heap[w.heap.size + 1 + 1 + 1]? = some o4 ∧ X.heap[w.heap.size + 1 + 1 + 1 + 1]? = some o5 ∧ X.heap[w.heap.size + 1 + 1 + 1 + 1 + 1]? = some o6 ∧ X.heap.size = w.heap.size + 6 ∧ Below w.heap.size w X := by
  intro X hX
  have nw : ∀ (Y : World) (o : Obj) (k : Nat), k = Y.heap.size → (Y.alloc o).heap[k]? = some o := fun Y o k hk => by rw [hk]; exact heap_alloc_new Y o
  have ol : ∀ (Y : World) (o : Obj) (k : Nat), k < Y.heap.size → (Y.alloc o).heap[k]? = Y.heap[k]? := fun Y o k hk => Below.heap_alloc _ _ _ hk
  have b1 : Below w.heap.size w (w.alloc o1) := (Below.refl _ _).alloc (Nat.le_refl _) _
  have b2 := b1.alloc (by simp) o2
  have b3 := b2.alloc (by simp; omega) o3
  have b4 := b3.alloc (by simp; omega) o4
  have b5 := b4.alloc (by simp; omega) o5
  have b6 := b5.alloc (by simp; omega) o6
  rw [hX]
  refine ⟨?_, ?_, ?_, ?_, ?_, by simp, b6⟩
  · rw [ol _ _ _ (by simp), ol _ _ _ (by simp), ol _ _ _ (by simp), ol _ _ _ (by simp)]; exact nw _ _ _ (by simp)
  · rw [ol _ _ _ (by simp), ol _ _ _ (by simp), ol _ _ _ (by simp)]; exact nw _ _ _ (by simp)
  · rw [ol _ _ _ (by simp), ol _ _ _ (by simp)]; exact nw _ _ _ (by simp)
  · rw [ol _ _ _ (by simp)]; exact nw _ _ _ (by simp)
  · exact nw _ _ _ (by simp)
theorem cells_own {β : Type} (b : Nat) (cs : Array Value) (t : TypeId) : Own (fun (_ : β) W => W.heap[b]? = some (.cells cs t)) := fun _ X Y row hs hg hrow =>
  (hg.block b (Array.getElem?_eq_some_iff.1 hs).1 (fun e => by
    obtain ⟨o, ho, hc⟩ := hrow b e.symm
    rw [hs] at ho
    obtain rfl := Option.some.inj ho
    simp [Obj.isCells] at hc)).trans hs
theorem grown_set (W : World) (b o : Nat) (v : Value) : W.grownBy (W.setCell ⟨b, o, none⟩ v) (some b) :=
  ⟨rfl, rfl, rfl, by simp, fun k _ hne => Below.heap_setCell _ _ _ _ (fun e => hne (by rw [e]))⟩
theorem row_set {W : World} {N e size n : Nat} {v : Value} {xs : List Value} {b o : Nat} (u : Value) (h : W.ownsRow N e size v n xs) (hne : v.ownBlock ≠ some b) : (W.setCell ⟨b, o, none⟩ u).ownsRow N e size v n xs :=
  h.kept (grown_set W b o u) (by
    rcases h.2 with ⟨rfl, _⟩ | _
    · exact .inl rfl
    · exact .inr hne)
theorem own_keep {w w' : World} {B : Nat} {e : TypeId} {s : Nat} {v : Value} {n : Nat} {xs : List Value} (h : w.ownsRow B e s v n xs) (hk : ∀ k, v.ownBlock = some k → w'.heap[k]? = w.heap[k]?) : w'.ownsRow B e s v n xs := by
  refine ⟨h.1, ?_⟩
  rcases h.2 with ⟨rfl, h0⟩ | ⟨g, cap, cur, rfl, hb, hg, h1, h2, h3, h4⟩
  · exact .inl ⟨rfl, h0⟩
  · exact .inr ⟨g, cap, cur, rfl, hb, (hk g rfl).trans hg, h1, h2, h3, h4⟩
theorem own_ne {w : World} {b1 b2 : Nat} {e1 e2 : TypeId} {s1 s2 n1 n2 : Nat} {v1 v2 : Value} {x1 x2 : List Value} (h1 : w.ownsRow b1 e1 s1 v1 n1 x1) (h2 : w.ownsRow b2 e2 s2 v2 n2 x2) (he : e1 ≠ e2) : ∀ k, v1.ownBlock = some k → v2.ownBlock = some k → False := by
  intro k hk1 hk2
  rcases h1.2 with ⟨rfl, _⟩ | ⟨g1, _, _, rfl, _, hg1, _⟩
  · cases hk1
  rcases h2.2 with ⟨rfl, _⟩ | ⟨g2, _, _, rfl, _, hg2, _⟩
  · cases hk2
  simp only [Value.ownBlock, Option.some.injEq] at hk1 hk2
  subst hk1 hk2
  rw [hg1] at hg2
  injection Option.some.inj hg2 with _ q _
  exact he q
theorem row_some {W : World} {base : Nat} {e : TypeId} {size : Nat} {v : Value} {k : Nat} {xs : List Value} (h : W.ownsRow base e size v (k + 1) xs) : ∃ g c, v = .slice (some ⟨g, 0, none⟩) (k + 1) c := by
  rcases h.2 with ⟨_, h0⟩ | ⟨g, cap, cur, hv, _⟩
  · omega
  · exact ⟨g, cap, hv⟩
/-- a row that grew: where it lies now, and what lies as it lay -/
theorem app_look {N e size m : Nat} {X Y : World} {o : Obj} {v v' : Value} {ys : List Value} {R : Nat → Prop} (hR : ∀ k, v.ownBlock = some k → R k) (hg : (X.alloc o).grownBy Y v.ownBlock) (hn : Y.ownsRow N e size v' m ys) (hat : v'.ownBlock = v.ownBlock ∨ v'.ownBlock = some (X.alloc o).heap.size) :
    (∀ j, j < X.heap.size → v.ownBlock ≠ some j → Y.heap[j]? = X.heap[j]?) ∧ X.heap.size ≤ Y.heap.size ∧ ∀ k, v'.ownBlock = some k → k < Y.heap.size ∧ (R k ∨ X.heap.size ≤ k) := by
  refine ⟨fun j hj hq => ?_, ?_, fun k hk => ⟨(hn.lt k hk).2, ?_⟩⟩
  · have e1 : Y.heap[j]? = (X.alloc o).heap[j]? := hg.block j (by simp; omega) (fun e => hq e.symm)
    exact e1.trans (Below.heap_alloc _ _ _ hj)
  · have := hg.size; simp at this; omega
  · rcases hat with q | q
    · exact .inl (hR k (by rw [← q]; exact hk))
    · rw [q] at hk; simp at hk; omega
theorem four_new (w : World) (a b c d : Value) (e : TypeId) : ∀ j u, [a, b, c, d][j]? = some u → (w.alloc (.cells #[a, b, c, d] e)).cell? ((⟨w.heap.size, 0, none⟩ : Addr).add j) = some u := by
  intro j u hj
  match j, hj with
  | 0, hj => simp at hj; subst hj; simp [Addr.add]
  | 1, hj => simp at hj; subst hj; simp [Addr.add]
  | 2, hj => simp at hj; subst hj; simp [Addr.add]
  | 3, hj => simp at hj; subst hj; simp [Addr.add]
theorem step_one (s : Sp) : ∀ u ∈ sc s, u.oneCell' = true := by
  intro u hu; simp [sc] at hu; rcases hu with rfl | rfl | rfl | rfl <;> rfl
theorem fold1 (F : Array Value) (i : Nat) (u : Value) : (#[i].zip #[u]).foldl (fun t (x : Nat × Value) => match x with | (p, v) => t.setIfInBounds p v) F = F.setIfInBounds i u := by
  rw [show #[i].zip #[u] = #[(i, u)] from by apply Array.ext'; simp]
  rfl
theorem callsIn_round {l n : Nat} {P : Program} {f : FuncId} {args : Array Value} {w : World} {R : Ending → World → Prop} (h : Calls P f args w R) : CallsIn (Fence.wide.inRound l) n P f args w R := (callsIn_wide (n := n)).2 h
theorem round_ok (m : Nat) : Fence.wide.depth.isSome = true → 1 ≤ m := fun h => by simp [Fence.wide] at h
/-- blocks from B on that are none of R lie as they lay -/
def Kr (B : Nat) (R : Nat → Prop) (X Y : World) : Prop := X.heap.size ≤ Y.heap.size ∧ ∀ k, B ≤ k → k < X.heap.size → ¬ R k → Y.heap[k]? = X.heap[k]?
theorem Kr.trans {B : Nat} {R : Nat → Prop} {X Y Z : World} (h : Kr B R X Y) (k : Kr B R Y Z) : Kr B R X Z := ⟨Nat.le_trans h.1 k.1, fun i h1 h2 h3 => (k.2 i h1 (Nat.lt_of_lt_of_le h2 h.1) h3).trans (h.2 i h1 h2 h3)⟩
theorem Kr.below {B : Nat} {R : Nat → Prop} {X Y : World} (h : Below X.heap.size X Y) : Kr B R X Y := ⟨h.size, fun k _ h2 _ => h.block k h2⟩
theorem Kr.alloc {B : Nat} {R : Nat → Prop} (X : World) (o : Obj) : Kr B R X (X.alloc o) := Kr.below ((Below.refl _ _).alloc (Nat.le_refl _) _)
theorem Kr.set {B : Nat} {R : Nat → Prop} (X : World) (b : Nat) (v : Value) (h : b < B) : Kr B R X (X.setCell ⟨b, 0, none⟩ v) := ⟨by simp, fun k h1 _ _ => Below.heap_setCell _ _ _ _ (by show k ≠ b; omega)⟩
theorem Kr.grown {B : Nat} {R : Nat → Prop} {X Y : World} {row : Option Nat} (h : X.grownBy Y row) (hr : ∀ k, row = some k → R k) : Kr B R X Y := ⟨h.size, fun k _ h2 h3 => h.block k h2 (fun e => h3 (hr k e.symm))⟩
theorem Kr.move {B : Nat} {R : Nat → Prop} {X Y : World} (h : Kr B R X Y) : RMove B R (fun k => k < Y.heap.size ∧ (R k ∨ X.heap.size ≤ k)) X Y := ⟨h.1, h.2, fun _ hk => hk⟩
set_option maxRecDepth 100000 in
set_option maxHeartbeats 4000000 in
theorem walk_any (now : Int) (a : Option Addr) (n cap : Nat) (ns : List Nd) (e : Ev) (p : ByteArray) (deep : Int) (w : World) (hg : Ng w a n cap ns) (hs : Sm ns) (hp : p.size ≤ 1000000000) :
    Calls Try.prog 7 #[.agg #[.slice a n cap, .int .i64 now], .agg (ea e), .string p, .int .i64 deep] w fun r w' =>
      ∃ v1 v2, r = .returned (.tuple #[v1, v2, .int .i64 (walkP now ns e p deep).2.2]) ∧ StR w.heap.size v1 (walkP now ns e p deep).1 w' ∧ TxR w.heap.size v2 (walkP now ns e p deep).2.1 w' ∧ Below w.heap.size w w' := by
  have HF : Hid (∀ W, Below w.heap.size w W → Calls Try.prog 13 #[.agg #[.slice a n cap, .int .i64 now], .agg (ea e), .string p, .bool false] W fun r w' => r = .returned (.tuple #[.agg (pv (findA now ns e p false).1), .int .i64 (findA now ns e p false).2]) ∧ Below W.heap.size W w') := fun W hW => findP_any a n cap ns now e p false W (hg.below hW) hs hp
  have HOK := hide (fun (h : (findA now ns e p false).2 = 0) => Ca.find_ok h)
  obtain ⟨A, hA⟩ : ∃ A, A = walkP now ns e p deep := ⟨_, rfl⟩
  rw [← hA]
  have HA : Hid (A = if (findA now ns e p false).2 ≠ 0 then ([], [], (findA now ns e p false).2)
    else if (findA now ns e p false).1.node = 0 then ([], [], 6)
    else (wkP ns e deep 34 0 p (findA now ns e p false).1.node.toNat, shL ns e deep (wkP ns e deep 34 0 p (findA now ns e p false).1.node.toNat), 0)) := hA
  clear hA
  have HCK : Hid ((findA now ns e p false).2 = 0 → checkP now ns = true ∧ p.size ≤ 1024) := fun h => by
    unfold findA at h
    split at h
    · cases h
    · rename_i hq
      refine ⟨?_, ?_⟩
      · rw [someP_is] at hq
        cases hc : checkP now ns with
        | true => rfl
        | false => rw [hc] at hq; simp at hq
      · unfold inPath badP at h
        split at h
        · cases h
        · split at h
          · cases h
          · rename_i hq
            simp only [Bool.or_eq_true, decide_eq_true_eq, not_or] at hq
            omega
  generalize findA now ns e p false = F at *
  obtain ⟨⟨fd, fnm, fno, fds⟩, fer⟩ := F
  simp only at HA HOK HF HCK
  have HG := hide hg
  have HS := hide hs
  obtain ⟨u, g, mk, dr⟩ := e
  have hw0 := hide (two_new w #[.slice a n cap, .int .i64 now] (ea ⟨u, g, mk, dr⟩) 24 26)
  clear hg hs hp
  refine (callsIn_wide (n := 3)).1 ?_
  refine callsIn_of_wp_marks Try.func7 rfl trivial ?_ rfl
  simp only [Try.ntmps7, List.size_toArray, List.length_cons, List.length_nil, Nat.reduceAdd, Nat.reduceSub, Array.replicate_succ, Array.replicate_zero, List.push_toArray, List.append_toArray, List.nil_append, List.cons_append]
  refine wpIn_wide.2 ?_
  go_wp2_with fail
  refine (unhide HF _ (unhide hw0).2.2.1).mono ?_
  rintro r w1 ⟨rfl, b1⟩
  have HB1 := hide ((unhide hw0).2.2.1.trans (b1.mono (unhide hw0).2.2.1.size))
  have g0 := (b1.block _ (Array.getElem?_eq_some_iff.1 (unhide hw0).1).1).trans (unhide hw0).1
  have g1 := (b1.block _ (Array.getElem?_eq_some_iff.1 (unhide hw0).2.1).1).trans (unhide hw0).2.1
  have c0 : w1.cell? ⟨w.heap.size, 0, none⟩ = some (.slice a n cap) := by rw [cell_of_row _ _ _ _ _ _ g0]; rfl
  have d0 : w1.cell? ⟨w.heap.size + 1, 0, none⟩ = some (.int .i64 u) := by rw [cell_of_row _ _ _ _ _ _ g1]; rfl
  have d1 : w1.cell? ⟨w.heap.size + 1, 1, none⟩ = some (.int .i64 g) := by rw [cell_of_row _ _ _ _ _ _ g1]; rfl
  have d2 : w1.cell? ⟨w.heap.size + 1, 2, none⟩ = some (.int .i64 mk) := by rw [cell_of_row _ _ _ _ _ _ g1]; rfl
  have d3 : w1.cell? ⟨w.heap.size + 1, 3, none⟩ = some (.int .i64 dr) := by rw [cell_of_row _ _ _ _ _ _ g1]; rfl
  have hsz1 : w.heap.size + 2 ≤ w1.heap.size := by have := b1.size; rw [(unhide hw0).2.2.2] at this; exact this
  have hl0 : w.heap.size < w1.heap.size := by omega
  have hl1 : w.heap.size + 1 < w1.heap.size := by omega
  clear b1 hw0 HF g0 g1
  have HBp : Hid (∀ o, Below w.heap.size w (w1.alloc o)) := fun o => (unhide HB1).alloc (unhide HB1).size o
  by_cases q1 : fer = 0
  case neg =>
    have HA1 : Hid (A = ([], [], fer)) := hide ((unhide HA).trans (by rw [if_pos q1]))
    have q1' : (fer != 0) = true := by simp [q1]
    clear HA HOK HCK q1
    go_wp2_with fail
    exact ⟨_, results_tmp3 (fn := Try.f7) rfl _ _ _, _, _, by rw [unhide HA1]; rfl, by rw [unhide HA1]; exact World.ownsRow_nil _ _ _ _, by rw [unhide HA1]; exact World.ownsRow_nil _ _ _ _, unhide HBp _⟩
  subst q1
  by_cases q2 : fno = 0
  · have HA1 : Hid (A = ([], [], 6)) := hide ((unhide HA).trans (by rw [if_neg (by decide), if_pos q2]))
    subst q2
    clear HA HOK HCK
    go_wp2_with fail
    exact ⟨_, results_tmp3 (fn := Try.f7) rfl _ _ _, _, _, by rw [unhide HA1]; rfl, by rw [unhide HA1]; exact World.ownsRow_nil _ _ _ _, by rw [unhide HA1]; exact World.ownsRow_nil _ _ _ _, unhide HBp _⟩
  obtain ⟨hc, hp⟩ := unhide HCK rfl
  obtain ⟨k, hk, hkn, hk0⟩ := (unhide HOK rfl).node hc
  simp only at hk
  subst hk
  have hkp : 0 < k := by omega
  have hkk : (nd ns k).kind ≠ 0 := by
    rcases hk0 with h | h
    · omega
    · exact h
  have HI := hide (in_start hc hkp hkn hkk)
  have q2' : ((k : Int) == 0) = false := by simp; omega
  have HA1 : Hid (A = (wkP ns ⟨u, g, mk, dr⟩ deep 34 0 p k, shL ns ⟨u, g, mk, dr⟩ deep (wkP ns ⟨u, g, mk, dr⟩ deep 34 0 p k), 0)) := hide ((unhide HA).trans (by rw [if_neg (by decide), if_neg (by simpa using q2)]; rfl))
  have HN := hide (show k < n by rw [← (unhide HG).len]; exact hkn)
  have HC := hide hc
  have HCF := hide (fun W => from_any a n cap ⟨u, g, mk, dr⟩ deep ⟨p, k, 0, false⟩ W)
  clear HA HOK HCK hk0 hkk hkp hkn hc
  go_wp2_with fail
  refine (unhide HCF _).mono ?_
  rintro r w2 ⟨rfl, rfl⟩
  clear HCF
  go_wp2_with fail
  refine (wpIn_wide (n := 3)).1 ?_
  obtain ⟨W0, hW0⟩ : ∃ W0, W0 = ((((((w1.alloc (.cells #[.int .i64 fd, .string fnm, .int .i64 k, .bool fds] 51)).alloc (.cells (ta a n cap ⟨u, g, mk, dr⟩ deep) tyT)).alloc (.cells #[.slice none 0 0] tyL)).alloc (.cells #[.slice none 0 0] 32)).alloc (.cells (ta a n cap ⟨u, g, mk, dr⟩ deep) tyT)).alloc (.cells (sa ⟨p, k, 0, false⟩) tyS)) := ⟨_, rfl⟩
  obtain ⟨hT, hSb, hHb, htb, hfb, hsz, hbW⟩ := six_new w1 _ _ _ _ _ _ W0 hW0
  have hB0 : Below w.heap.size w W0 := (unhide HB1).trans (hbW.mono (by omega))
  rw [show ((((((w1.alloc (.cells #[.int .i64 fd, .string fnm, .int .i64 k, .bool fds] 51)).alloc (.cells (ta a n cap ⟨u, g, mk, dr⟩ deep) tyT)).alloc (.cells #[.slice none 0 0] tyL)).alloc (.cells #[.slice none 0 0] 32)).alloc (.cells (ta a n cap ⟨u, g, mk, dr⟩ deep) tyT)).alloc (.cells (sa ⟨p, k, 0, false⟩) tyS)) = W0 from hW0.symm]
  clear hW0 hbW c0 d0 d1 d2 d3 HBp
  obtain ⟨i0, hi0, hz0, hz1, hz2⟩ := info_parts Try.infoStep
  obtain ⟨j0, hj0, hy0, hy1, hy2⟩ := info_parts Ln.Try.infoStr
  have HLN := hide (wk_len (unhide HC) ⟨u, g, mk, dr⟩ deep (d := 0) (p := p) (unhide HI))
  have HIN := hide (fun s hs => wk_in (hung_check (unhide HC)) ⟨u, g, mk, dr⟩ deep (d := 0) (p := p) (unhide HI) s hs)
  obtain ⟨XS, hXS⟩ : ∃ XS, XS = wkP ns ⟨u, g, mk, dr⟩ deep 34 0 p k := ⟨_, rfl⟩
  have HIT := hide (from_itr now w (w1.heap.size + 1 + 1 + 1 + 1) (w1.heap.size + 1 + 1 + 1 + 1 + 1) a n cap ns ⟨u, g, mk, dr⟩ deep p k (unhide HC) (unhide HG) (unhide HI) (by omega))
  rw [← hXS] at HLN HIN HIT HA1
  clear hXS
  refine Rng.range5 (n := 3) (gf := 30) (lb := #[.pointer (some ⟨w1.heap.size + 1 + 1 + 1 + 1, 0, none⟩), .pointer (some ⟨w1.heap.size + 1 + 1 + 1 + 1 + 1, 0, none⟩)]) rfl (enters_of Try.func30 (by kernel_rfl) rfl)
    (unhide HIT) (fun _ => rfl)
    (fun R pre W => (∃ v, Boxed W (w1.heap.size + 1 + 1) tyL v ∧ W.ownsRow W0.heap.size tyS 4 v pre.length (stc pre) ∧ ∀ k, v.ownBlock = some k → R k) ∧ (∃ v, Boxed W (w1.heap.size + 1 + 1 + 1) 32 v ∧ W.ownsRow W0.heap.size 9 1 v (shL ns ⟨u, g, mk, dr⟩ deep pre).length ((shL ns ⟨u, g, mk, dr⟩ deep pre).map Value.string) ∧ ∀ k, v.ownBlock = some k → R k) ∧ W.heap[w1.heap.size + 1]? = some (.cells (ta a n cap ⟨u, g, mk, dr⟩ deep) tyT) ∧ Rd w (w1.heap.size + 1 + 1 + 1 + 1) (w1.heap.size + 1 + 1 + 1 + 1 + 1) a n cap ⟨u, g, mk, dr⟩ deep ⟨p, k, 0, false⟩ W)
    (fun _ _ _ _ => False) (fun _ => False)
    (fun R => OwnFrom.and (Own.from (holdsRow_own W0.heap.size (w1.heap.size + 1 + 1) tyL tyS 4 (fun pre : List Sp => pre.length) stc (fun _ v => ∀ k, v.ownBlock = some k → R k)) _) (OwnFrom.and (Own.from (holdsRow_own W0.heap.size (w1.heap.size + 1 + 1 + 1) 32 9 1 (fun pre : List Sp => (shL ns ⟨u, g, mk, dr⟩ deep pre).length) (fun pre => (shL ns ⟨u, g, mk, dr⟩ deep pre).map Value.string) (fun _ v => ∀ k, v.ownBlock = some k → R k)) _) (OwnFrom.and (Own.from (cells_own _ _ _) _) (fun s X Y row hs hg hr => ⟨(ownFrom_below (β := List Sp) (Nat.le_refl _) (by omega)) s X Y row hs.below hg hr, (Own.from (cells_own (β := List Sp) _ _ _) _) s X Y row hs.trip hg hr, (Own.from (cells_own (β := List Sp) _ _ _) _) s X Y row hs.first hg hr⟩))))
    (fun _ _ _ _ _ _ h _ _ => h)
    (fun R pre W b o v hb hR h => by
      have oth : ∀ j, j < W0.heap.size → (W.setCell ⟨b, o, none⟩ v).heap[j]? = W.heap[j]? := fun j hj => Below.heap_setCell _ _ _ _ (by show j ≠ b; omega)
      obtain ⟨⟨v1, h1, h2, h3⟩, ⟨v2, h4, h5, h6⟩, h7, h8⟩ := h
      exact ⟨⟨v1, (oth _ (by omega)).trans h1, row_set v h2 (fun e => hR (h3 _ e)), h3⟩, ⟨v2, (oth _ (by omega)).trans h4, row_set v h5 (fun e => hR (h6 _ e)), h6⟩, (oth _ (by omega)).trans h7, ⟨h8.below.setCell (p := ⟨b, o, none⟩) (show w.heap.size ≤ b by omega) _, (oth _ (by omega)).trans h8.trip, (oth _ (by omega)).trans h8.first⟩⟩)
    (fun _ h => h.elim)
    (fun R pre W h => h.2.2.2)
    ⟨⟨_, hSb, World.ownsRow_nil _ _ _ _, fun _ h => by cases h⟩, ⟨_, hHb, World.ownsRow_nil _ _ _ _, fun _ h => by cases h⟩, hT, ⟨hB0, htb, hfb⟩⟩
    (fun x W => { tmps := #[.agg #[.slice a n cap, .int .i64 now], .agg (ea ⟨u, g, mk, dr⟩), .string p, .int .i64 deep, .pointer (some ⟨w.heap.size, 0, none⟩), .pointer (some ⟨w.heap.size + 1, 0, none⟩), undef, undef, .slice none 0 0, .slice none 0 0, .int .i64 0, .pointer (some ⟨w1.heap.size, 0, none⟩), .int .i64 0, .pointer (some ⟨w1.heap.size + 1, 0, none⟩), .pointer (some ⟨w1.heap.size + 1 + 1, 0, none⟩), .pointer (some ⟨w1.heap.size + 1 + 1 + 1, 0, none⟩), .pointer (some ⟨W.heap.size, 0, none⟩), .tuple #[.agg (pv ⟨fd, fnm, k, fds⟩), .int .i64 0], .agg #[.slice a n cap, .int .i64 now], .agg #[.int .i64 u, .int .i64 g, .int .i64 mk, .int .i64 dr], .string p, .tuple #[.agg (pv ⟨fd, fnm, k, fds⟩), .int .i64 0], .agg (pv ⟨fd, fnm, k, fds⟩), .int .i64 0, .bool false, .int .i64 0, .bool false, undef, .bool false, .pointer (some ⟨w1.heap.size, 2, none⟩), .int .i64 k, .bool false, .pointer (some ⟨w.heap.size, 0, none⟩), .slice a n cap, .agg #[.int .i64 u, .int .i64 g, .int .i64 mk, .int .i64 dr], .int .i64 deep, .agg (ta a n cap ⟨u, g, mk, dr⟩ deep), .agg (ta a n cap ⟨u, g, mk, dr⟩ deep), .string p, .pointer (some ⟨w1.heap.size, 2, none⟩), .int .i64 k, .agg #[.string p, .int .i64 k, .int .i64 0, .bool false], itv (w1.heap.size + 1 + 1 + 1 + 1) (w1.heap.size + 1 + 1 + 1 + 1 + 1), .agg (sa x), undef, undef, undef, undef, undef, undef, undef, undef, undef, undef, undef, undef, undef, undef], defers := [] })
    (fun x W => W.alloc (.cells (sa x) tyS)) (fun x W => World.grownBy_alloc W _ none) ?assign ?body ?done ?stop
  case assign =>
    intro m l x W K hK
    simp only [enS, fold1, List.setIfInBounds_toArray, List.set_cons_zero, List.set_cons_succ]
    gi_wp2
    exact hK
  case body =>
    rintro m l R pre x W U ⟨⟨v1, hv1, hr1, hR1⟩, ⟨v2, hv2, hr2, hR2⟩, hT, hrd⟩ hRW hgU hpre hsW
    have hxm : x ∈ XS := hpre.subset (by simp)
    obtain ⟨kx, hkx, -, hkxn, -, -, jx, hjx⟩ := unhide HIN x hxm
    have hlen : pre.length + 1 ≤ 4098 := by
      have h1 := hpre.length_le
      have h2 := unhide HLN
      simp at h1; omega
    have hlen2 : (shL ns ⟨u, g, mk, dr⟩ deep pre).length ≤ 4098 := by
      have h1 := List.length_filter_le (shP ns ⟨u, g, mk, dr⟩ deep) pre
      unfold shL
      rw [List.length_map]; omega
    have hUs : U.heap[W.heap.size]? = some (.cells (sa x) tyS) := (hgU.block W.heap.size (by simp) (fun e => by have := Option.some.inj e; omega)).trans (heap_alloc_new W _)
    have hWU : W.heap.size < U.heap.size := (Array.getElem?_eq_some_iff.1 hUs).1
    have hnS : ¬ R W.heap.size := fun h => by have := hRW _ h; omega
    obtain ⟨xp, xn, xd, xa⟩ := x
    simp only at hkx hjx
    subst hkx hjx
    obtain ⟨s0, s1, s2, s3, -⟩ := step_look hUs
    simp only at s0 s1 s2 s3
    have c1 := hv1.cell
    have hkn : kx < n := by rw [← (unhide HG).len]; exact hkxn
    have nlow : ∀ j, j < W0.heap.size → v1.ownBlock ≠ some j := fun j hj e => by have := (hr1.lt j e).1; omega
    have nlow2 : ∀ j, j < W0.heap.size → v2.ownBlock ≠ some j := fun j hj e => by have := (hr2.lt j e).1; omega
    have hn12 : ∀ j, v2.ownBlock = some j → v1.ownBlock ≠ some j := fun j h2 h1 => own_ne hr1 hr2 (by decide) j h1 h2
    have HRd := hide hrd
    have HT := hide hT
    have HUs := hide hUs
    have HV1 := hide hv1
    have HV2 := hide hv2
    have HRR1 := hide hR1
    have HRR2 := hide hR2
    have HSn := hide (show shL ns ⟨u, g, mk, dr⟩ deep (pre ++ [⟨xp, kx, jx, xa⟩]) = _ from shL_snoc _ _ _ _ _)
    have HSH := hide (fun V (hV : Below w.heap.size w V) => isShut_any a n cap ns ⟨u, g, mk, dr⟩ deep xp kx jx xa V ((unhide HG).below hV) hkn)
    have hbs : W0.heap.size ≤ U.heap.size := by omega
    clear hgU hRW hpre hxm hrd hT hUs hv1 hv2 hR1 hR2 hkxn HIT HIN HLN
    generalize shP ns ⟨u, g, mk, dr⟩ deep ⟨xp, kx, jx, xa⟩ = Q at *
    obtain ⟨SL, hSL⟩ : ∃ SL, SL = shL ns ⟨u, g, mk, dr⟩ deep pre := ⟨_, rfl⟩
    rw [← hSL] at hr2 HSn hlen2
    clear hSL
    gi_upto_region 12 with (gi_at_builtin; refine wpListIn_append_own_at _ rfl _ _ 31 rfl W0.heap.size tyS i0 _ 4 40 Try.underlying31 hi0 hz0 hz1 hz2 rfl (by decide) _ _ _ rfl (hr1.alloc _) ⟨U.heap.size, 0, none⟩ 1 1 (sc ⟨xp, kx, jx, xa⟩) rfl rfl (four_new _ _ _ _ _ _) (step_one _) (by unfold maxLen; omega) (by omega) (by simp; omega) ?_; intro v1' wA hown hgrow _ hat; obtain ⟨hLk, hSz, hBl⟩ := app_look (unhide HRR1) hgrow hown hat; obtain ⟨g', cap', rfl⟩ := row_some hown; have hv1A : Boxed wA (w1.heap.size + 1 + 1) tyL v1 := (hLk _ (by omega) (nlow _ (by omega))).trans (unhide HV1); have hc1 := hv1A.cell; have hf1 := hv1A.frozen)
    obtain ⟨WB, hWB⟩ : ∃ WB, WB = wA.setCell ⟨w1.heap.size + 1 + 1, 0, none⟩ (.slice (some ⟨g', 0, none⟩) (pre.length + 1) cap') := ⟨_, rfl⟩
    rw [← hWB]
    have hgl := hown.lt g' rfl
    have hk1 : ∀ j, j < U.heap.size → v1.ownBlock ≠ some j → j ≠ w1.heap.size + 1 + 1 → WB.heap[j]? = U.heap[j]? := fun j h1 h2 h3 => by rw [hWB]; exact (Below.heap_setCell _ _ _ _ (by show j ≠ _; exact h3)).trans (hLk j h1 h2)
    have hBsz : WB.heap.size = wA.heap.size := by rw [hWB]; simp
    have hv1B : Boxed WB (w1.heap.size + 1 + 1) tyL (.slice (some ⟨g', 0, none⟩) (pre.length + 1) cap') := by rw [hWB]; exact hv1A.set _
    have hr1B : WB.ownsRow W0.heap.size tyS 4 (.slice (some ⟨g', 0, none⟩) (pre.length + 1) cap') (pre.length + 1) (stc pre ++ sc ⟨xp, kx, jx, xa⟩) := by rw [hWB]; exact Ln.own_set hown (by omega)
    have hTB := (hk1 _ (by omega) (nlow _ (by omega)) (by omega)).trans (unhide HT)
    have hsB := (hk1 _ hWU (fun e => hnS (unhide HRR1 _ e)) (by omega)).trans (unhide HUs)
    have hrdB : Rd w (w1.heap.size + 1 + 1 + 1 + 1) (w1.heap.size + 1 + 1 + 1 + 1 + 1) a n cap ⟨u, g, mk, dr⟩ deep ⟨p, k, 0, false⟩ WB :=
      ⟨(show Below w.heap.size w WB from by
          have hA : Below w.heap.size w wA := ⟨(hgrow.os).trans ((unhide HRd).below.alloc (Nat.le_trans (Nat.le_of_lt hl0) (by omega)) _).os, (hgrow.tape).trans ((unhide HRd).below.alloc (Nat.le_trans (Nat.le_of_lt hl0) (by omega)) _).tape, (hgrow.output).trans ((unhide HRd).below.alloc (Nat.le_trans (Nat.le_of_lt hl0) (by omega)) _).output, by have := (unhide HRd).below.size; omega, fun j hj => (hLk j (by omega) (nlow _ (by omega))).trans ((unhide HRd).below.block j hj)⟩
          rw [hWB]
          exact hA.setCell (p := ⟨w1.heap.size + 1 + 1, 0, none⟩) (show w.heap.size ≤ w1.heap.size + 1 + 1 by omega) _), (hk1 _ (by omega) (nlow _ (by omega)) (by omega)).trans (unhide HRd).trip, (hk1 _ (by omega) (nlow _ (by omega)) (by omega)).trans (unhide HRd).first⟩
    have C := hide (unhide HSH WB hrdB.below)
    obtain ⟨⟨t0, t1, t2, t3, t4, t5⟩, ⟨s0', s1', s2', s3', -⟩⟩ := And.intro (show _ from trip_look (⟨hrdB.below, hTB, hsB⟩ : Rd w (w1.heap.size + 1) W.heap.size a n cap ⟨u, g, mk, dr⟩ deep ⟨xp, kx, jx, xa⟩ WB)) (step_look hsB)
    simp only at t1 t2 t3 t4 s0' s1' s2' s3'
    have HBL := hide hBl
    have hUA : U.heap.size ≤ WB.heap.size := by omega
    have hlenp : (pre ++ [(⟨xp, kx, jx, xa⟩ : Sp)]).length = pre.length + 1 := by simp
    have HSt := hide (stc_snoc pre ⟨xp, kx, jx, xa⟩)
    clear hBl hLk hgrow hat hown hWB hc1 hf1 hv1A c1 s0 s1 s2 s3 HT HUs HV1 HSH hSz
    gi_wp2
    refine ⟨trivial, round_ok m, (callsIn_round (unhide C)).mono ?_⟩
    rintro r WC ⟨rfl, hbC⟩
    have hkC : ∀ j, j < U.heap.size → v1.ownBlock ≠ some j → j ≠ w1.heap.size + 1 + 1 → WC.heap[j]? = U.heap[j]? := fun j h1 h2 h3 => (hbC.block j (by omega)).trans (hk1 j h1 h2 h3)
    have hsC := (hbC.block _ (Array.getElem?_eq_some_iff.1 hsB).1).trans hsB
    have hTC := (hbC.block _ (Array.getElem?_eq_some_iff.1 hTB).1).trans hTB
    have hrdC : Rd w (w1.heap.size + 1 + 1 + 1 + 1) (w1.heap.size + 1 + 1 + 1 + 1 + 1) a n cap ⟨u, g, mk, dr⟩ deep ⟨p, k, 0, false⟩ WC := ⟨hrdB.below.trans (hbC.mono hrdB.below.size), (hbC.block _ (Array.getElem?_eq_some_iff.1 hrdB.trip).1).trans hrdB.trip, (hbC.block _ (Array.getElem?_eq_some_iff.1 hrdB.first).1).trans hrdB.first⟩
    have hv1C : Boxed WC (w1.heap.size + 1 + 1) tyL (.slice (some ⟨g', 0, none⟩) (pre.length + 1) cap') := (hbC.block _ hv1B.lt).trans hv1B
    have hr1C := own_keep hr1B (fun j hj => hbC.block j (hr1B.lt j hj).2)
    have hv2C : Boxed WC (w1.heap.size + 1 + 1 + 1) 32 v2 := (hkC _ (by omega) (nlow _ (by omega)) (by omega)).trans (unhide HV2)
    have hr2C : WC.ownsRow W0.heap.size 9 1 v2 SL.length (SL.map Value.string) := own_keep hr2 (fun j hj => hkC j (hr2.lt j hj).2 (hn12 j hj) (by have := (hr2.lt j hj).1; omega))
    have hCs := hbC.size
    clear C hk1 hbC hrdB hTB hsB hv1B hr1B t0 t1 t2 t3 t4 t5 s0' s1' s2' s3'
    cases Q with
    | false =>
      have hSn : Hid (shL ns ⟨u, g, mk, dr⟩ deep (pre ++ [⟨xp, kx, jx, xa⟩]) = SL) := by
        show _ = _
        rw [unhide HSn]; simp
      gi_wp2
      refine ⟨fun j => j < WC.heap.size ∧ (R j ∨ U.heap.size ≤ j), ⟨by omega, fun j h1 h2 h3 => hkC j h2 (fun e => h3 (unhide HRR1 _ e)) (by omega), fun j hj => hj⟩, ⟨_, hv1C, ?_, fun j hj => ⟨(hr1C.lt j hj).2, (unhide HBL j hj).2⟩⟩, ⟨v2, hv2C, ?_, fun j hj => ⟨(hr2C.lt j hj).2, .inl (unhide HRR2 j hj)⟩⟩, hTC, hrdC⟩
      · rw [hlenp, unhide HSt]; exact hr1C
      · rw [unhide hSn]; exact hr2C
    | true =>
      have hSn : Hid (shL ns ⟨u, g, mk, dr⟩ deep (pre ++ [⟨xp, kx, jx, xa⟩]) = SL ++ [xp]) := by
        show _ = _
        rw [unhide HSn]; simp
      have c2 := hv2C.cell
      obtain ⟨s0', -, -, -, -⟩ := step_look hsC
      simp only at s0'
      gi_wp2_with (gi_at_builtin; refine wpListIn_append_own_at _ rfl _ _ 32 rfl W0.heap.size 9 j0 _ 1 16 Try.underlying32 hj0 hy0 hy1 hy2 rfl (by decide) _ _ _ rfl (hr2C.alloc _) ⟨WC.heap.size, 0, none⟩ 1 1 [.string xp] rfl rfl (byte_new _ _ _) (by simp [Value.oneCell']) (by unfold maxLen; omega) (by omega) (by simp; omega) ?_; intro v2' wD hown2 hgrow2 _ hat2; obtain ⟨hLk2, hSz2, hBl2⟩ := app_look (unhide HRR2) hgrow2 hown2 hat2; obtain ⟨g2, cap2, rfl⟩ := row_some hown2; have hv2D : Boxed wD (w1.heap.size + 1 + 1 + 1) 32 v2 := (hLk2 _ hv2C.lt (nlow2 _ (by omega))).trans hv2C; have hc2 := hv2D.cell; have hf2 := hv2D.frozen)
      have hgl2 := hown2.lt g2 rfl
      have hlow : ∀ j, j < W0.heap.size → j ≠ w1.heap.size + 1 + 1 + 1 → (wD.setCell ⟨w1.heap.size + 1 + 1 + 1, 0, none⟩ (.slice (some ⟨g2, 0, none⟩) (SL.length + 1) cap2)).heap[j]? = WC.heap[j]? := fun j h1 h2 => (Below.heap_setCell _ _ _ _ (by show j ≠ _; exact h2)).trans (hLk2 j (by omega) (nlow2 j h1))
      have hr1D := own_keep hr1C (fun j hj => hLk2 j (hr1C.lt j hj).2 (fun e => own_ne hr1C hr2C (by decide) j hj e))
      have hr1E := Ln.own_set (B := w1.heap.size + 1 + 1 + 1) (u := (.slice (some ⟨g2, 0, none⟩) (SL.length + 1) cap2)) hr1D (by omega)
      have hr2E := Ln.own_set (B := w1.heap.size + 1 + 1 + 1) (u := (.slice (some ⟨g2, 0, none⟩) (SL.length + 1) cap2)) hown2 (by omega)
      have hbE : Below w.heap.size w (wD.setCell ⟨w1.heap.size + 1 + 1 + 1, 0, none⟩ (.slice (some ⟨g2, 0, none⟩) (SL.length + 1) cap2)) := by
        have q := hrdC.below.alloc (Nat.le_trans (Nat.le_of_lt hl0) (by omega)) (.cells #[.string xp] 9)
        have hA : Below w.heap.size w wD := ⟨hgrow2.os.trans q.os, hgrow2.tape.trans q.tape, hgrow2.output.trans q.output, by have := hrdC.below.size; omega, fun j hj => (hLk2 j (by omega) (nlow2 j (by omega))).trans (hrdC.below.block j hj)⟩
        exact hA.setCell (p := ⟨w1.heap.size + 1 + 1 + 1, 0, none⟩) (show w.heap.size ≤ w1.heap.size + 1 + 1 + 1 by omega) _
      refine ⟨fun j => j < (wD.setCell ⟨w1.heap.size + 1 + 1 + 1, 0, none⟩ (.slice (some ⟨g2, 0, none⟩) (SL.length + 1) cap2)).heap.size ∧ (R j ∨ U.heap.size ≤ j), ⟨by rw [World.size_setCell]; exact Nat.le_trans (Nat.le_trans hUA hCs) hSz2, fun j h1 h2 h3 => ?_, fun j hj => hj⟩, ⟨_, (hlow _ (by omega) (by omega)).trans hv1C, ?_, fun j hj => ⟨(hr1E.lt j hj).2, (unhide HBL j hj).2⟩⟩, ⟨_, hv2D.set _, ?_, fun j hj => ⟨(hr2E.lt j hj).2, ?_⟩⟩, (hlow _ (by omega) (by omega)).trans hTC, ⟨hbE, (hlow _ (by omega) (by omega)).trans hrdC.trip, (hlow _ (by omega) (by omega)).trans hrdC.first⟩⟩
      · exact (Below.heap_setCell _ _ _ _ (by show j ≠ w1.heap.size + 1 + 1 + 1; omega)).trans ((hLk2 j (Nat.lt_of_lt_of_le h2 (Nat.le_trans hUA hCs)) (fun e => h3 (unhide HRR2 _ e))).trans (hkC j h2 (fun e => h3 (unhide HRR1 _ e)) (by omega)))
      · rw [hlenp, unhide HSt]; exact hr1E
      · rw [unhide hSn, List.length_append, List.map_append]; exact hr2E
      · rcases (hBl2 j hj).2 with q | q
        · exact .inl q
        · exact .inr (Nat.le_trans (Nat.le_trans hUA hCs) q)
  case done =>
    rintro R W hW ⟨⟨v1, hv1, hr1, hR1⟩, ⟨v2, hv2, hr2, hR2⟩, hT, hrd⟩ hD
    have c1 := hv1.cell
    have c2 := hv2.cell
    have hD2 := hide hD
    have HR1 := hide hr1
    have HR2 := hide hr2
    have HBl := hide hrd.below
    clear hD hr1 hr2 hR1 hR2 hT hrd
    go_wp2_with fail
    go_quiet (fail)
    go_wp2_with fail
    have hD' : (W.drewN nq).heap[W0.heap.size]? = some (.deferred (some [])) := unhide hD2
    have hr1' : (W.drewN nq).ownsRow W0.heap.size tyS 4 v1 XS.length (stc XS) := unhide HR1
    have hr2' : (W.drewN nq).ownsRow W0.heap.size 9 1 v2 (shL ns ⟨u, g, mk, dr⟩ deep XS).length ((shL ns ⟨u, g, mk, dr⟩ deep XS).map Value.string) := unhide HR2
    have hB' : Below w.heap.size w (W.drewN nq) := below_drewN (unhide HBl) _
    refine ⟨by simp, .inl ⟨_, _, rfl, run_takeDeferred hD', ?_⟩⟩
    refine ⟨_, results_tmp3 (fn := Try.f7) rfl _ _ _, v1, v2, by rw [unhide HA1]; rfl, ?_, ?_, hB'.trans (belowK_b (w := w) (Nat.le_refl _) _ _ _ _ (by omega) hD' rfl rfl)⟩
    · rw [unhide HA1]
      exact Ln.own_base' (ownsRow_putObj hr1' _ hD' rfl) (by omega)
    · rw [unhide HA1]
      exact Ln.own_base' (ownsRow_putObj hr2' _ hD' rfl) (by omega)
  case stop =>
    rintro c R pre W _ _ h _
    exact h.elim
end Go.Proofs.Ytbajjbgeohbdjaa.Wk
