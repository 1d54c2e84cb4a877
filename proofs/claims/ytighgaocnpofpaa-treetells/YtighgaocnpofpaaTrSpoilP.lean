/- A tree of which one number was changed may not be, in plain words; and such a change in memory. -/
import Derived.Test.YtighgaocnpofpaaTrPathsP
import Derived.Test.YtighgaocnpofpaaTrTwinT
namespace Go.Proofs.Ytighgaocnpofpaa.Tr
open Go.RowKit Go.Proofs.Ytighgaocnpofpaa.Cu

/-- two trees with the same kinds and lists -/
structure Alike (ns ms : List Nd) : Prop where
  len : ms.length = ns.length
  kind : ∀ i, (nd ms i).kind = (nd ns i).kind
  list : ∀ i, (nd ms i).list = (nd ns i).list
theorem Alike.tg {ns ms : List Nd} (h : Alike ns ms) (y : Nat) : tg ms y = tg ns y := by unfold Tr.tg; rw [h.list]
theorem Alike.times {ns ms : List Nd} (h : Alike ns ms) (x : Nat) : times ms x = times ns x := by
  unfold Tr.times
  rw [h.len]
  refine sumTo_eq _ _ _ fun y _ => ?_
  rw [h.kind, h.tg]
theorem Alike.dirs {ns ms : List Nd} (h : Alike ns ms) (l : List En) : dirsIn ms l = dirsIn ns l := by
  unfold dirsIn
  congr 2
  funext e
  rw [h.kind]
theorem same_links {now : Int} {ns ms : List Nd} (h : Alike ns ms) (c1 : checkP now ns = true) (c2 : checkP now ms = true) (k : Nat) (h1 : 1 ≤ k) (hk : k < ns.length) (h0 : (nd ns k).kind ≠ 0) : (nd ms k).links = (nd ns k).links := by
  have g1 := hung_check c1
  have g2 := hung_check c2
  by_cases k2 : (nd ns k).kind = 2
  · have a1 := (g1.good k hk k2).1.2
    have a2 := (g2.good k (by rw [h.len]; exact hk) (by rw [h.kind]; exact k2)).1.2
    rw [a1, a2, h.list, h.dirs]
  · have hk2 : 2 ≤ k := by
      by_cases e : k = 1
      · subst e; exact absurd (checkP_parts c1).2.2.2.1 k2
      · omega
    rw [g1.links k hk2 hk h0 k2, g2.links k hk2 (by rw [h.len]; exact hk) (by rw [h.kind]; exact h0) (by rw [h.kind]; exact k2), h.times]
theorem kind_parent {n : Nd} (h : kindP n = true) (h2 : n.kind ≠ 2) : n.parent = 0 := by
  unfold kindP at h
  have hno : noListP n = true → n.parent = 0 := fun h => by
    unfold noListP at h
    simp only [Bool.and_eq_true, decide_eq_true_eq] at h
    exact h.2
  split at h
  · unfold freeP at h
    simp only [Bool.and_eq_true] at h
    exact hno h.2
  split at h
  · unfold fileP at h
    simp only [Bool.and_eq_true] at h
    exact hno h.2
  split at h
  · unfold linkP at h
    simp only [Bool.and_eq_true] at h
    exact hno h.2
  · cases h
theorem same_parent {now : Int} {ns ms : List Nd} (h : Alike ns ms) (c1 : checkP now ns = true) (c2 : checkP now ms = true) (k : Nat) (h1 : 1 ≤ k) (hk : k < ns.length) : (nd ms k).parent = (nd ns k).parent := by
  have g1 := hung_check c1
  have g2 := hung_check c2
  by_cases k2 : (nd ns k).kind = 2
  · by_cases e : k = 1
    · subst e; rw [(checkP_parts c1).2.2.2.2.1, (checkP_parts c2).2.2.2.2.1]
    · have hk' : k < ms.length := by rw [h.len]; exact hk
      have k2' : (nd ms k).kind = 2 := by rw [h.kind]; exact k2
      obtain ⟨s, _, hu⟩ := (g2.good k hk' k2').2
      obtain ⟨_, p, _, _, _, hp, _⟩ := hu.cases1 e
      obtain ⟨hc, hkp, hpn⟩ := listed_once g2 (by omega) hk' k2' hp
      rw [h.tg] at hc
      rw [h.kind] at hkp
      rw [h.len] at hpn
      have hm : k ∈ tg ns p := List.count_pos_iff.1 (by omega)
      unfold tg at hm
      obtain ⟨e, he, hed⟩ := List.mem_map.1 hm
      have := ((g1.good p hpn hkp).1.1 e he).2.2.2 (by rw [hed]; exact k2)
      rw [hed] at this
      rw [hp, this]
  · rw [kind_parent ((checkP_parts c1).2.2.2.2.2.1 k hk) k2, kind_parent ((checkP_parts c2).2.2.2.2.2.1 k (by rw [h.len]; exact hk)) (by rw [h.kind]; exact k2)]
theorem times_le {ns : List Nd} (x : Nat) : times ns x ≤ namesP ns ns.length := by
  rw [names_sum ns _ (Nat.le_refl _)]
  unfold times
  refine sumTo_le _ _ _ fun y _ => ?_
  split
  · have := List.count_le_length (a := x) (l := tg ns y)
    unfold tg at this ⊢
    rw [List.length_map] at this
    exact this
  · exact Nat.zero_le _
theorem links_small {now : Int} {ns : List Nd} (c : checkP now ns = true) (k : Nat) (h1 : 1 ≤ k) (hk : k < ns.length) (h0 : (nd ns k).kind ≠ 0) : 0 ≤ (nd ns k).links ∧ (nd ns k).links ≤ 5000 := by
  have g := hung_check c
  by_cases k2 : (nd ns k).kind = 2
  · rw [(g.good k hk k2).1.2]
    have h2 := lists_small c k
    have h3 : dirsIn ns (nd ns k).list ≤ (nd ns k).list.length := List.length_filter_le _ _
    omega
  · have hk2 : 2 ≤ k := by
      by_cases e : k = 1
      · subst e; exact absurd (checkP_parts c).2.2.2.1 k2
      · omega
    rw [g.links k hk2 hk h0 k2]
    have h2 := times_le (ns := ns) k
    have h3 := (checkP_parts c).2.2.2.2.2.2.2.1
    unfold limitsP at h3
    simp only [Bool.and_eq_true, decide_eq_true_eq] at h3
    omega
theorem parent_small {now : Int} {ns : List Nd} (c : checkP now ns = true) (k : Nat) (h1 : 1 ≤ k) (hk : k < ns.length) : 0 ≤ (nd ns k).parent ∧ (nd ns k).parent ≤ 5000 := by
  have g := hung_check c
  by_cases k2 : (nd ns k).kind = 2
  · by_cases e : k = 1
    · subst e; rw [(checkP_parts c).2.2.2.2.1]; omega
    · obtain ⟨s, _, hu⟩ := (g.good k hk k2).2
      obtain ⟨_, p, _, _, _, hp, hup⟩ := hu.cases1 e
      have h2 := (checkP_parts c).2.1
      have h3 := hup.lt (by have := (checkP_parts c).1; omega)
      rw [hp]; omega
  · rw [kind_parent ((checkP_parts c).2.2.2.2.2.1 k hk) k2]; omega
theorem nd_set (ns : List Nd) (k i : Nat) (m : Nd) (hk : k < ns.length) : nd (ns.set k m) i = if i = k then m else nd ns i := by
  unfold nd
  simp only [List.getD]
  rw [List.getElem?_set]
  by_cases e : i = k
  · subst e; simp [hk]
  · rw [if_neg e, if_neg (fun h => e h.symm)]
theorem alike_links (ns : List Nd) (k : Nat) (v : Int) (hk : k < ns.length) : Alike ns (ns.set k { nd ns k with links := v }) := by
  refine ⟨by simp, fun i => ?_, fun i => ?_⟩
  · rw [nd_set _ _ _ _ hk]; split
    · rename_i e; rw [e]
    · rfl
  · rw [nd_set _ _ _ _ hk]; split
    · rename_i e; rw [e]
    · rfl
theorem spoil_links {now : Int} {ns : List Nd} (c : checkP now ns = true) (k : Nat) (h1 : 1 ≤ k) (hk : k < ns.length) (_h0 : (nd ns k).kind ≠ 0) (v : Int) (hv : v ≠ (nd ns k).links) : checkP now (ns.set k { nd ns k with links := v }) = false := by
  cases e : checkP now (ns.set k { nd ns k with links := v }) with
  | false => rfl
  | true =>
    have := same_links (alike_links ns k v hk) c e k h1 hk _h0
    rw [nd_set _ _ _ _ hk, if_pos rfl] at this
    exact absurd this hv
theorem Tw.links {w : World} {G : Nat} {acc : List Nv} {ns : List Nd} (h : Tw w G acc) (hm : acc.map (·.1) = ns) (k : Nat) (hk : k < ns.length) (v : Int) :
    Ng (w.setCell ⟨G, k * 10 + 4, none⟩ (.int .i64 v)) (some ⟨G, 0, none⟩) ns.length (ns.length + 1) (ns.set k { nd ns k with links := v }) := by
  have hal : acc.length = ns.length := by rw [← hm, List.length_map]
  have hot : ∀ o, o ≠ k * 10 + 4 → (w.setCell ⟨G, k * 10 + 4, none⟩ (.int .i64 v)).cell? ⟨G, o, none⟩ = w.cell? ⟨G, o, none⟩ := fun o ho => World.cell?_setCell_other _ _ _ _ (fun e => ho (by injection e with _ e2; exact e2.symm))
  have hbk : ∀ q, q ≠ G → (w.setCell ⟨G, k * 10 + 4, none⟩ (.int .i64 v)).heap[q]? = w.heap[q]? := fun q hq => heap_setCell_other _ ⟨G, k * 10 + 4, none⟩ q _ hq
  refine ⟨by simp, by omega, by simp, .inr ⟨G, 0, rfl, by rw [World.size_setCell]; exact h.lt, fun i hi => ?_⟩⟩
  rw [Nat.zero_add, nd_set _ _ _ _ hk]
  have hi' : i < acc.length := by omega
  have h10 := h.rows i hi'
  have hmem : acc.getD i zNv ∈ acc := by simp [List.getD, List.getElem?_eq_getElem hi']
  have htx := (h.tx _ hmem).keep (w' := w.setCell ⟨G, k * 10 + 4, none⟩ (.int .i64 v)) (by simp) fun q h1 h2 => hbk q (by omega)
  have hnd : (acc.getD i zNv).1 = nd ns i := by rw [← hm, nd_map acc i hi']
  obtain ⟨da, dc, la, lc, e1, e2, e3, e4⟩ := htx.ox
  rw [e1, e2] at h10
  rw [hnd] at h10 e3 e4
  by_cases e : i = k
  · rw [if_pos e]
    subst e
    have hnew : (w.setCell ⟨G, i * 10 + 4, none⟩ (.int .i64 v)).cell? ⟨G, i * 10 + 4, none⟩ = some (.int .i64 v) := World.cell?_setCell_same _ _ _ h10.c4
    refine ⟨da, dc, la, lc, ⟨(hot _ (by omega)).trans h10.c0, (hot _ (by omega)).trans h10.c1, (hot _ (by omega)).trans h10.c2, (hot _ (by omega)).trans h10.c3, hnew, (hot _ (by omega)).trans h10.c5, (hot _ (by omega)).trans h10.c6, (hot _ (by omega)).trans h10.c7, (hot _ (by omega)).trans h10.c8, (hot _ (by omega)).trans h10.c9⟩, e3, e4⟩
  · rw [if_neg e]
    exact ⟨da, dc, la, lc, ⟨(hot _ (by omega)).trans h10.c0, (hot _ (by omega)).trans h10.c1, (hot _ (by omega)).trans h10.c2, (hot _ (by omega)).trans h10.c3, (hot _ (by omega)).trans h10.c4, (hot _ (by omega)).trans h10.c5, (hot _ (by omega)).trans h10.c6, (hot _ (by omega)).trans h10.c7, (hot _ (by omega)).trans h10.c8, (hot _ (by omega)).trans h10.c9⟩, e3, e4⟩
theorem alike_parent (ns : List Nd) (k : Nat) (v : Int) (hk : k < ns.length) : Alike ns (ns.set k { nd ns k with parent := v }) := by
  refine ⟨by simp, fun i => ?_, fun i => ?_⟩
  · rw [nd_set _ _ _ _ hk]; split
    · rename_i e; rw [e]
    · rfl
  · rw [nd_set _ _ _ _ hk]; split
    · rename_i e; rw [e]
    · rfl
theorem spoil_parent {now : Int} {ns : List Nd} (c : checkP now ns = true) (k : Nat) (h1 : 1 ≤ k) (hk : k < ns.length) (_h0 : (nd ns k).kind ≠ 0) (v : Int) (hv : v ≠ (nd ns k).parent) : checkP now (ns.set k { nd ns k with parent := v }) = false := by
  cases e : checkP now (ns.set k { nd ns k with parent := v }) with
  | false => rfl
  | true =>
    have := same_parent (alike_parent ns k v hk) c e k h1 hk
    rw [nd_set _ _ _ _ hk, if_pos rfl] at this
    exact absurd this hv
theorem Tw.parent {w : World} {G : Nat} {acc : List Nv} {ns : List Nd} (h : Tw w G acc) (hm : acc.map (·.1) = ns) (k : Nat) (hk : k < ns.length) (v : Int) :
    Ng (w.setCell ⟨G, k * 10 + 9, none⟩ (.int .i64 v)) (some ⟨G, 0, none⟩) ns.length (ns.length + 1) (ns.set k { nd ns k with parent := v }) := by
  have hal : acc.length = ns.length := by rw [← hm, List.length_map]
  have hot : ∀ o, o ≠ k * 10 + 9 → (w.setCell ⟨G, k * 10 + 9, none⟩ (.int .i64 v)).cell? ⟨G, o, none⟩ = w.cell? ⟨G, o, none⟩ := fun o ho => World.cell?_setCell_other _ _ _ _ (fun e => ho (by injection e with _ e2; exact e2.symm))
  have hbk : ∀ q, q ≠ G → (w.setCell ⟨G, k * 10 + 9, none⟩ (.int .i64 v)).heap[q]? = w.heap[q]? := fun q hq => heap_setCell_other _ ⟨G, k * 10 + 9, none⟩ q _ hq
  refine ⟨by simp, by omega, by simp, .inr ⟨G, 0, rfl, by rw [World.size_setCell]; exact h.lt, fun i hi => ?_⟩⟩
  rw [Nat.zero_add, nd_set _ _ _ _ hk]
  have hi' : i < acc.length := by omega
  have h10 := h.rows i hi'
  have hmem : acc.getD i zNv ∈ acc := by simp [List.getD, List.getElem?_eq_getElem hi']
  have htx := (h.tx _ hmem).keep (w' := w.setCell ⟨G, k * 10 + 9, none⟩ (.int .i64 v)) (by simp) fun q h1 h2 => hbk q (by omega)
  have hnd : (acc.getD i zNv).1 = nd ns i := by rw [← hm, nd_map acc i hi']
  obtain ⟨da, dc, la, lc, e1, e2, e3, e4⟩ := htx.ox
  rw [e1, e2] at h10
  rw [hnd] at h10 e3 e4
  by_cases e : i = k
  · rw [if_pos e]
    subst e
    have hnew : (w.setCell ⟨G, i * 10 + 9, none⟩ (.int .i64 v)).cell? ⟨G, i * 10 + 9, none⟩ = some (.int .i64 v) := World.cell?_setCell_same _ _ _ h10.c9
    refine ⟨da, dc, la, lc, ⟨(hot _ (by omega)).trans h10.c0, (hot _ (by omega)).trans h10.c1, (hot _ (by omega)).trans h10.c2, (hot _ (by omega)).trans h10.c3, (hot _ (by omega)).trans h10.c4, (hot _ (by omega)).trans h10.c5, (hot _ (by omega)).trans h10.c6, (hot _ (by omega)).trans h10.c7, (hot _ (by omega)).trans h10.c8, hnew⟩, e3, e4⟩
  · rw [if_neg e]
    exact ⟨da, dc, la, lc, ⟨(hot _ (by omega)).trans h10.c0, (hot _ (by omega)).trans h10.c1, (hot _ (by omega)).trans h10.c2, (hot _ (by omega)).trans h10.c3, (hot _ (by omega)).trans h10.c4, (hot _ (by omega)).trans h10.c5, (hot _ (by omega)).trans h10.c6, (hot _ (by omega)).trans h10.c7, (hot _ (by omega)).trans h10.c8, (hot _ (by omega)).trans h10.c9⟩, e3, e4⟩
theorem sm_set {ns ms : List Nd} (h : Sm ns) (hl : ms.length = ns.length) (hs : ∀ i, (nd ms i).list = (nd ns i).list ∧ (nd ms i).data = (nd ns i).data) : Sm ms := by
  have hb : ∀ k, k ≤ ns.length → bytesP ms k = bytesP ns k ∧ namesP ms k = namesP ns k := by
    intro k
    induction k with
    | zero => intro _; simp [bytesP, namesP]
    | succ k ih =>
      intro hk
      obtain ⟨i1, i2⟩ := ih (by omega)
      rw [bytesP_succ ms k (by omega), bytesP_succ ns k (by omega), namesP_succ ms k (by omega), namesP_succ ns k (by omega), i1, i2, (hs k).1, (hs k).2]
      exact ⟨rfl, rfl⟩
  obtain ⟨b1, b2⟩ := hb ns.length (Nat.le_refl _)
  exact ⟨by rw [hl]; exact h.hn, fun i => by rw [(hs i).1]; exact h.hls i, by rw [hl, b1]; exact h.hby, by rw [hl, b2]; exact h.hna⟩
theorem sm_links {ns : List Nd} (h : Sm ns) (k : Nat) (hk : k < ns.length) (v : Int) : Sm (ns.set k { nd ns k with links := v }) :=
  sm_set h (by simp) fun i => by
    rw [nd_set _ _ _ _ hk]
    split
    · rename_i e; rw [e]; exact ⟨rfl, rfl⟩
    · exact ⟨rfl, rfl⟩
theorem sm_parent {ns : List Nd} (h : Sm ns) (k : Nat) (hk : k < ns.length) (v : Int) : Sm (ns.set k { nd ns k with parent := v }) :=
  sm_set h (by simp) fun i => by
    rw [nd_set _ _ _ _ hk]
    split
    · rename_i e; rw [e]; exact ⟨rfl, rfl⟩
    · exact ⟨rfl, rfl⟩
end Go.Proofs.Ytighgaocnpofpaa.Tr
