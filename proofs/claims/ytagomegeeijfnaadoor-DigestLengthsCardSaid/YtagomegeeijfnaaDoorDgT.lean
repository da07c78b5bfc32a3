/- The document's digest: a word turned. -/
import Derived.Test.YtagomegeeijfnaaDoorDgD
namespace Go.Proofs.YtagomegeeijfnaaDoor.dg
open Go.RowKit Mem DM
set_option linter.unusedVariables false
theorem refRotr_any (x : UInt32) (n : Nat) (h1 : 1 ≤ n) (h2 : n ≤ 31) (w : World) :
    Calls Tryd.prog 25 #[wv x, .int .u64 (n : Int)] w fun e w' => e = .returned (wv (rr x n)) ∧ w = w' := by
  have hx := x.toNat_lt
  have hr := rr_nat x n h1 h2
  have ha : (x.toNat * 2 ^ (32 - n)) % 4294967296 < 4294967296 := Nat.mod_lt _ (by decide)
  have hb : x.toNat / 2 ^ n < 4294967296 := Nat.lt_of_le_of_lt (Nat.div_le_self _ _) hx
  have ho := u32_or_nat _ _ hb ha
  rw [Nat.or_comm, ← hr] at ho
  unfold wv
  obtain ⟨X, hX⟩ : ∃ X, x.toNat = X := ⟨_, rfl⟩
  obtain ⟨Y, hY⟩ : ∃ Y, (rr x n).toNat = Y := ⟨_, rfl⟩
  rw [hX] at ho hx ⊢
  rw [hY] at ho ⊢
  have HO := Lib.hid ho
  have hs : IntKind.u64.wrap (32 - (n : Int)) = ((32 - n : Nat) : Int) := by
    have key : ∀ n : Fin 31, IntKind.u64.wrap (32 - ((n.val + 1 : Nat) : Int)) = ((32 - (n.val + 1) : Nat) : Int) := by decide +kernel
    have := key ⟨n - 1, by omega⟩
    simp only at this
    rw [show n - 1 + 1 = n by omega] at this
    exact this
  clear ho hr ha hb hX hY
  go_enter Tryd.func25, Tryd.ntmps25
  go_wp2_with fail
  go_ret
  have ho := HO.out
  have e1 : (((X * 2 ^ (32 - n)) % 4294967296 : Nat) : Int) = (X : Int) * 2 ^ (32 - n) % 4294967296 := by rw [Int.natCast_emod, Int.natCast_mul, Int.natCast_pow]; rfl
  have e2 : ((X / 2 ^ n : Nat) : Int) = (X : Int) / 2 ^ n := by rw [Int.natCast_ediv, Int.natCast_pow]; rfl
  rw [e1, e2] at ho
  exact ⟨congrArg (fun z => Ending.returned (Value.int IntKind.u32 z)) ho, rfl⟩
/-- append onto a row that is there: the row's elder place shows what it showed -/
theorem run_app_keep {P : Program} {w : World} {T E : TypeId} {z : Value} {bytes : Nat} (ty : Ty1 P T E z bytes) (rt : TypeId) {base B g n c : Nat} {xs : List Value} (hown : Ow w base E (some ⟨g, 0, none⟩) n c xs)
    {A2 : Option Addr} {m c2 : Nat} {ys : List Value} (hr : Rd w B A2 m ys) (h1 : ∀ u ∈ ys, u.oneCell' = true) (hb : (n + m) * bytes ≤ 140737488355328) (h63 : n + m ≤ 9223372036854775807) (hbase : base ≤ w.heap.size) (hm : 0 < m) :
    ∃ A' N c' w', (Builtin.append_ #[T, T] rt #[.slice (some ⟨g, 0, none⟩) n c, .slice A2 m c2]).run P w = .ok (.slice A' N c') w' ∧ N = n + m ∧ Ow w' base E A' N c' (xs ++ ys) ∧ w.grownBy w' (some g) ∧
      (blk A' = some g ∨ blk A' = some w.heap.size) ∧ ∀ j, j < n → w'.cell? ⟨g, j, none⟩ = xs[j]? := by
  obtain ⟨A', N, c', w', hrun, hN, h2, h3, h4⟩ := run_app (P := P) (c2 := c2) ty rt hown hr h1 hb h63 hbase
  have hlt := hown.blk_lt g rfl
  have hx : ∀ j, j < n → ∀ u, xs[j]? = some u → w.cell? ⟨g, j, none⟩ = some u := fun j hj u hu => by
    have := World.ownsRow.cells hown (g := g) rfl j u hu
    rwa [Addr.add_lit, Nat.zero_add] at this
  refine ⟨A', N, c', w', hrun, hN, h2, h3, h4, fun j hj => ?_⟩
  have hjx : j < xs.length := by rw [hown.len]; exact hj
  rw [List.getElem?_eq_getElem hjx]
  have hold := hx j hj _ (List.getElem?_eq_getElem hjx)
  rcases h4 with e | e
  · cases A' with
    | none => simp [blk] at e
    | some a =>
      have ha : a.block = g := by simpa [blk] using e
      obtain ⟨g2, e2, h5⟩ : ∃ g2, some a = some ⟨g2, 0, none⟩ ∧ g2 < w'.heap.size := by
        obtain ⟨g2, e2, _, h5⟩ := h2.at0 (by omega)
        exact ⟨g2, e2, h5⟩
      injection e2 with e2
      subst e2
      simp only at ha
      subst ha
      have := World.ownsRow.cells h2 (g := g2) rfl j xs[j] (by rw [List.getElem?_append_left hjx]; exact List.getElem?_eq_getElem hjx)
      rwa [Addr.add_lit, Nat.zero_add] at this
  · obtain ⟨i, hi, hz, hsz, hby⟩ := ty.hi
    obtain ⟨b, off, rfl, hbl, hc⟩ := hr.addr hm
    have hnews : ∀ j u, ys[j]? = some u → w.cell? ((⟨b, off, none⟩ : Addr).add j) = some u := fun j u hu => by
      have hj : j < ys.length := (List.getElem?_eq_some_iff.1 hu).1
      rw [Addr.add_lit]
      exact (hc j (by rw [← hr.len]; exact hj)).trans hu
    have hl : ys.length = m * i.size := by rw [hr.len, hsz]; omega
    by_cases hroom : n + m ≤ c
    · exfalso
      rcases hown.2 with ⟨e0, _⟩ | ⟨g3, cap, cur, e0, hbg, hg, hnc, hcm, hcs, htake⟩
      · cases e0
      · injection e0 with e1 _ e3
        injection e1 with e1
        injection e1 with e1
        subst e1 e3
        have hfit : n * i.size + ys.length ≤ cur.size := by rw [hl, hcs, hsz]; omega
        have hr2 := run_append_room (P := P) w T rt E i ty.ht hi g n c cur hg ⟨b, off, none⟩ m c2 ys hl hnews h1 hroom hfit
        rw [hrun] at hr2
        injection hr2 with hr2
        injection hr2 with hr2
        subst hr2
        simp [blk] at e
        omega
    · have holds : ∀ j u, xs[j]? = some u → w.cell? ((⟨g, 0, none⟩ : Addr).add j) = some u := hown.cells (g := g) rfl
      have hlo : xs.length = n * i.size := by rw [hown.len, hsz, Nat.mul_one]
      have hr2 := run_append_grow (P := P) w T rt E i z ty.ht hi hz ⟨g, 0, none⟩ n c xs hlo holds ⟨b, off, none⟩ m c2 ys hl hnews (by omega) (by omega) (growslice_fits (by omega) (by rw [hby]; exact hb))
      rw [hrun] at hr2
      injection hr2 with _ hr3
      subst hr3
      exact (World.cell?_of_block (w := w) (Below.heap_alloc w.drew _ g hlt.2)).trans hold
theorem step_app_keep {P : Program} {w : World} {ops : Array Oper} {o : Oper} {a : Act} {K : Act → World → Prop} {Q : Exit → Act → World → Prop} {F : Prop} {T E : TypeId} {z : Value} {bytes : Nat} (ty : Ty1 P T E z bytes) (hgd : o.guard = none) (s x : Operand)
    (ho : o.op = .call { callee := .builtin .append, args := #[s, x], argTypes := #[T, T] })
    {base B g n c : Nat} {xs : List Value} {A2 : Option Addr} {m c2 : Nat} {ys : List Value} (hs : a.eval s = .slice (some ⟨g, 0, none⟩) n c) (hx : a.eval x = .slice A2 m c2) (hown : Ow w base E (some ⟨g, 0, none⟩) n c xs)
    (hr : Rd w B A2 m ys) (h1 : ∀ u ∈ ys, u.oneCell' = true) (hb : (n + m) * bytes ≤ 140737488355328) (h63 : n + m ≤ 9223372036854775807) (hbase : base ≤ w.heap.size) (hm : 0 < m)
    (h : ∀ A' N c' w', Ow w' base E A' N c' (xs ++ ys) → N = n + m → Below base w w' → (∀ j, j < n → w'.cell? ⟨g, j, none⟩ = xs[j]?) → K (a.put o.dst (.slice A' N c')) w') :
    if Region.wanted o (yielded ops a.tmps) = true then Oper.wp P o a w K Q else F := by
  have hw : Region.wanted o (yielded ops a.tmps) = true := by simp [Region.wanted, hgd]
  rw [if_pos hw]
  obtain ⟨A', N, c', w', hrun, e, h2, h3, _, h4⟩ := run_app_keep (P := P) ty o.type (c2 := c2) hown hr h1 hb h63 hbase hm
  unfold Oper.wp execOp
  simp only [ho, resolve, invoke, builtin, Sem.run_bind, Sem.run_pure, Result.andThen_ok, List.map_toArray, List.map_cons, List.map_nil, hs, hx, hrun]
  exact h A' N c' w' h2 e (below_of_grown h3 hbase fun k hk => by injection hk with hk; subst hk; exact (hown.blk_lt _ rfl).1) h4
end Go.Proofs.YtagomegeeijfnaaDoor.dg
