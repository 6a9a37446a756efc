package conjunct

import (
	"configlang/api"
	"configlang/scopes"
)

// firstPackage is the Num of a reference to package 0.
const firstPackage = 1000

// linker gives the references to imports of a package the numbers of the packages.
type linker struct {
	files  []api.File
	lets   map[string]int // the file of each let of the package scope
	packed map[string]int // the index of the package with each path, or -1 if there are several
}

// link returns the packages of a program with all references resolved, also those to packages.
func link(p api.Program) ([]*linker, api.Errno) {
	packed := map[string]int{}
	for i, pack := range p.Packages {
		if _, ok := packed[pack.Path]; ok {
			i = -1
		}
		packed[pack.Path] = i
	}
	var packages []*linker
	for _, pack := range p.Packages {
		resolved, e := scopes.Resolve(pack)
		if e != api.OK {
			return nil, e
		}
		packages = append(packages, &linker{files: resolved.Files, lets: map[string]int{}, packed: packed})
	}
	for _, k := range packages {
		if !k.complete() {
			return nil, api.ErrImport
		}
	}
	for _, pack := range p.Packages {
		if unknown, _ := scopes.Undefined(pack); len(unknown) > 0 {
			return nil, api.ErrName
		}
	}
	for _, k := range packages {
		k.link()
	}
	return packages, api.OK
}

// complete reports whether each import has exactly one package.
func (k *linker) complete() bool {
	for _, f := range k.files {
		for _, i := range f.Imports {
			if n, ok := k.packed[i.Path]; !ok || n < 0 {
				return false
			}
		}
	}
	return true
}

// link numbers all references to packages.
func (k *linker) link() {
	for i, f := range k.files {
		for _, d := range f.Decls {
			if d.Kind == api.DcLet {
				k.lets[d.Label] = i
			}
		}
	}
	for i, f := range k.files {
		k.decls(f.Decls, i)
	}
}

// decls numbers the references in declarations of a file.
func (k *linker) decls(l []api.Decl, file int) {
	for _, d := range l {
		k.exprs(d.Subs, file)
		k.decls(d.Body, file)
	}
}

// exprs numbers the references in expressions of a file.
func (k *linker) exprs(l []api.Expr, file int) {
	for i := range l {
		e := &l[i]
		if e.Kind == api.ExRef && e.Names[0] == "package" {
			e.Num = firstPackage + int64(k.target(e.Text, file))
		}
		inner := file
		if isLet(*e) {
			inner = k.letFile(*e, file)
		}
		k.exprs(e.Subs, inner)
		k.decls(e.Decls, inner)
	}
}

// target returns the package that a name of an import of a file refers to.
func (k *linker) target(name string, file int) int {
	for _, i := range k.files[file].Imports {
		if i.Name == name {
			return k.packed[i.Path]
		}
	}
	return 0
}

// letFile returns the file in which the let stands that a reference in a file is resolved to.
func (k *linker) letFile(e api.Expr, file int) int {
	if e.Num > 0 { // the let is in a struct, which does not extend over several files
		return file
	}
	return k.lets[e.Text]
}

// isLet reports whether an expression is a reference that is resolved to a let.
func isLet(e api.Expr) bool {
	return e.Kind == api.ExRef && e.Names[0] == "let"
}
